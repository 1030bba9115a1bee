/-
  RDc, RDd, RDe. By the verifier.
-/
import Derived.Test.YtpfogjplnodacaaGreatR1
import Derived.Test.YtpfogjplnodacaaGreatR3
import Derived.Deep.RegionLaw
set_option maxRecDepth 100000
set_option maxHeartbeats 3200000
namespace Go.Proofs.YtpfogjplnodacaaGreat
open Go.RowKit Go.Maps
set_option linter.unusedVariables false
section
variable {T : Array Value} {w : World} {Q : Exit → Act → World → Prop} {bm g c : Nat}
theorem rd_r1 {k6 pc il ic : Nat} {ia : Option Addr} {VB : Bool} (hT : T.size = 401) (s0 : T[0]? = some (.pointer (some ⟨bm, 0, none⟩))) (s2 : T[2]? = some (.pointer (some ⟨g, k6, none⟩))) (h2 : w.cell? ⟨g, k6 + 2, none⟩ = some (.int .i64 (pc : Nat))) (h0 : w.cell? ⟨bm, 0, none⟩ = some (.slice ia il ic)) (hil : il ≤ 3000) (hpc : pc ≤ 3000) (hVB : VB = decide (il ≤ pc))
  (hQ : ∀ T', (Fq.Kp 16 T T' ∧ T'[28]? = some (.bool VB)) → Q .normal ⟨T', []⟩ (w.drew)) : (Fq.reg Tryz.f22 1).wp Tryz.prog Q ⟨T, []⟩ w := by
 have HQ := hide hQ
 clear hQ
 conv => arg 2; whnf
 refine Fq.norm (fun T' w' => Fq.Kp 16 T T' ∧ T'[28]? = some (.bool VB) ∧ w' = (w.drew)) (fun T' w' h => by obtain ⟨h0, h1, rfl⟩ := h; exact (unhide HQ) T' ⟨h0, h1⟩) ?_
 obtain ⟨t, ht⟩ : ∃ t : Nat → Value, t = fun i => T.getD i (.tuple #[]) := ⟨_, rfl⟩
 have hTl : T = Fq.w401 t := by rw [ht]; exact Fq.ls_is hT
 unfold Fq.w401 at hTl
 rw [(congrFun ht 0).trans (Fq.gd s0), (congrFun ht 2).trans (Fq.gd s2)] at hTl
 clear ht hT s0 s2
 refine Fq.fr hTl ?_
 have HTL := hide hTl
 clear hTl
 by_cases hR : il ≤ pc
 · have HV3 := hide (show VB = true by rw [hVB, decide_eq_true hR] <;> rfl)
   have b0 : (il : Int) ≤ (pc : Int) := by omega
   clear hVB
   go_region_law (fail)
   all_goals exact ⟨rfl, ⟨by rw [unhide HTL]; rfl, fun k hk => by rw [unhide HTL]; rcases (show k = 0 ∨ k = 1 ∨ k = 2 ∨ k = 3 ∨ k = 4 ∨ k = 5 ∨ k = 6 ∨ k = 7 ∨ k = 8 ∨ k = 9 ∨ k = 10 ∨ k = 11 ∨ k = 12 ∨ k = 13 ∨ k = 14 ∨ k = 15 by omega) with rfl | rfl | rfl | rfl | rfl | rfl | rfl | rfl | rfl | rfl | rfl | rfl | rfl | rfl | rfl | rfl <;> rfl⟩, (by rw [unhide HV3] <;> rfl), rfl⟩
 · have HV3 := hide (show VB = false by rw [hVB, decide_eq_false hR] <;> rfl)
   have b0 : ¬ (il : Int) ≤ (pc : Int) := by omega
   clear hVB
   go_region_law (fail)
   all_goals exact ⟨rfl, ⟨by rw [unhide HTL]; rfl, fun k hk => by rw [unhide HTL]; rcases (show k = 0 ∨ k = 1 ∨ k = 2 ∨ k = 3 ∨ k = 4 ∨ k = 5 ∨ k = 6 ∨ k = 7 ∨ k = 8 ∨ k = 9 ∨ k = 10 ∨ k = 11 ∨ k = 12 ∨ k = 13 ∨ k = 14 ∨ k = 15 by omega) with rfl | rfl | rfl | rfl | rfl | rfl | rfl | rfl | rfl | rfl | rfl | rfl | rfl | rfl | rfl | rfl <;> rfl⟩, (by rw [unhide HV3] <;> rfl), rfl⟩
theorem rd_r3 {k6 pc b o il ic : Nat} {ia : Option Addr} {xk xa xb : Int} (hT : T.size = 401) (s0 : T[0]? = some (.pointer (some ⟨bm, 0, none⟩))) (s2 : T[2]? = some (.pointer (some ⟨g, k6, none⟩))) (h2 : w.cell? ⟨g, k6 + 2, none⟩ = some (.int .i64 (pc : Nat))) (h0 : w.cell? ⟨bm, 0, none⟩ = some (.slice (some ⟨b, o, none⟩) il ic)) (hpc : pc < il) (hil : il ≤ 3000) (y0 : w.cell? ⟨b, o + pc * 3, none⟩ = some (.int .i64 xk)) (y1 : w.cell? ⟨b, o + pc * 3 + 1, none⟩ = some (.int .i64 xa)) (y2 : w.cell? ⟨b, o + pc * 3 + 2, none⟩ = some (.int .i64 xb))
  (hQ : ∀ T', (Fq.Kp 3 T T' ∧ T'[3]? = some (.pointer (some ⟨w.heap.size, 0, none⟩))) → Q .normal ⟨T', []⟩ ((w.alloc (Obj.cells #[.int .i64 xk, .int .i64 xa, .int .i64 xb] 54)).drew)) : (Fq.reg Tryz.f22 3).wp Tryz.prog Q ⟨T, []⟩ w := by
 have HQ := hide hQ
 clear hQ
 conv => arg 2; whnf
 refine Fq.norm (fun T' w' => Fq.Kp 3 T T' ∧ T'[3]? = some (.pointer (some ⟨w.heap.size, 0, none⟩)) ∧ w' = ((w.alloc (Obj.cells #[.int .i64 xk, .int .i64 xa, .int .i64 xb] 54)).drew)) (fun T' w' h => by obtain ⟨h0, h1, rfl⟩ := h; exact (unhide HQ) T' ⟨h0, h1⟩) ?_
 obtain ⟨t, ht⟩ : ∃ t : Nat → Value, t = fun i => T.getD i (.tuple #[]) := ⟨_, rfl⟩
 have hTl : T = Fq.w401 t := by rw [ht]; exact Fq.ls_is hT
 unfold Fq.w401 at hTl
 rw [(congrFun ht 0).trans (Fq.gd s0), (congrFun ht 2).trans (Fq.gd s2)] at hTl
 clear ht hT s0 s2
 refine Fq.fr hTl ?_
 have HTL := hide hTl
 clear hTl
 have q0 : (0 : Int) ≤ (pc : Int) := by omega
 have q1 : (pc : Int) < (il : Int) := by omega
 have hal := (Below.refl w.heap.size w).alloc (Nat.le_refl _) (Obj.cells #[.int .i64 0, .int .i64 0, .int .i64 0] 54)
 have a_h2 : (w.alloc (Obj.cells #[.int .i64 0, .int .i64 0, .int .i64 0] 54)).cell? ⟨g, k6 + 2, none⟩ = some (.int .i64 (pc : Nat)) := (hal.cell (p := ⟨g, k6 + 2, none⟩) (World.block_lt_of_cell? w _ h2)).trans h2
 have a_h0 : (w.alloc (Obj.cells #[.int .i64 0, .int .i64 0, .int .i64 0] 54)).cell? ⟨bm, 0, none⟩ = some (.slice (some ⟨b, o, none⟩) il ic) := (hal.cell (p := ⟨bm, 0, none⟩) (World.block_lt_of_cell? w _ h0)).trans h0
 have a_y0 : (w.alloc (Obj.cells #[.int .i64 0, .int .i64 0, .int .i64 0] 54)).cell? ⟨b, o + pc * 3, none⟩ = some (.int .i64 xk) := (hal.cell (p := ⟨b, o + pc * 3, none⟩) (World.block_lt_of_cell? w _ y0)).trans y0
 have a_y1 : (w.alloc (Obj.cells #[.int .i64 0, .int .i64 0, .int .i64 0] 54)).cell? ⟨b, o + pc * 3 + 1, none⟩ = some (.int .i64 xa) := (hal.cell (p := ⟨b, o + pc * 3 + 1, none⟩) (World.block_lt_of_cell? w _ y1)).trans y1
 have a_y2 : (w.alloc (Obj.cells #[.int .i64 0, .int .i64 0, .int .i64 0] 54)).cell? ⟨b, o + pc * 3 + 2, none⟩ = some (.int .i64 xb) := (hal.cell (p := ⟨b, o + pc * 3 + 2, none⟩) (World.block_lt_of_cell? w _ y2)).trans y2
 clear hal
 go_region_law (fail)
 all_goals exact ⟨rfl, ⟨by rw [unhide HTL]; rfl, fun k hk => by rw [unhide HTL]; rcases (show k = 0 ∨ k = 1 ∨ k = 2 by omega) with rfl | rfl | rfl <;> rfl⟩, (by first | rfl | simp), rfl⟩
theorem rd_r7 {st fu : Nat} {VB : Bool} (hT : T.size = 401) (s0 : T[0]? = some (.pointer (some ⟨bm, 0, none⟩))) (h5 : w.cell? ⟨bm, 5, none⟩ = some (.int .i64 (st : Nat))) (h4 : w.cell? ⟨bm, 4, none⟩ = some (.int .i64 (fu : Nat))) (hVB : VB = decide (st = fu))
  (hQ : ∀ T', (Fq.Kp 16 T T' ∧ T'[62]? = some (.bool VB)) → Q .normal ⟨T', []⟩ (w.drew)) : (Fq.reg Tryz.f22 7).wp Tryz.prog Q ⟨T, []⟩ w := by
 have HQ := hide hQ
 clear hQ
 conv => arg 2; whnf
 refine Fq.norm (fun T' w' => Fq.Kp 16 T T' ∧ T'[62]? = some (.bool VB) ∧ w' = (w.drew)) (fun T' w' h => by obtain ⟨h0, h1, rfl⟩ := h; exact (unhide HQ) T' ⟨h0, h1⟩) ?_
 obtain ⟨t, ht⟩ : ∃ t : Nat → Value, t = fun i => T.getD i (.tuple #[]) := ⟨_, rfl⟩
 have hTl : T = Fq.w401 t := by rw [ht]; exact Fq.ls_is hT
 unfold Fq.w401 at hTl
 rw [(congrFun ht 0).trans (Fq.gd s0)] at hTl
 clear ht hT s0
 refine Fq.fr hTl ?_
 have HTL := hide hTl
 clear hTl
 by_cases hR : st = fu
 · have HV3 := hide (show VB = true by rw [hVB, decide_eq_true hR])
   subst hR
   clear hVB
   go_region_law (fail)
   all_goals exact ⟨rfl, ⟨by rw [unhide HTL]; rfl, fun k hk => by rw [unhide HTL]; rcases (show k = 0 ∨ k = 1 ∨ k = 2 ∨ k = 3 ∨ k = 4 ∨ k = 5 ∨ k = 6 ∨ k = 7 ∨ k = 8 ∨ k = 9 ∨ k = 10 ∨ k = 11 ∨ k = 12 ∨ k = 13 ∨ k = 14 ∨ k = 15 by omega) with rfl | rfl | rfl | rfl | rfl | rfl | rfl | rfl | rfl | rfl | rfl | rfl | rfl | rfl | rfl | rfl <;> rfl⟩, (by rw [unhide HV3] <;> rfl), rfl⟩
 · have HV3 := hide (show VB = false by rw [hVB, decide_eq_false hR])
   have b0 : (((st : Nat) : Int) == ((fu : Nat) : Int)) = false := by simp; omega
   clear hVB hR
   go_region_law (fail)
   all_goals exact ⟨rfl, ⟨by rw [unhide HTL]; rfl, fun k hk => by rw [unhide HTL]; rcases (show k = 0 ∨ k = 1 ∨ k = 2 ∨ k = 3 ∨ k = 4 ∨ k = 5 ∨ k = 6 ∨ k = 7 ∨ k = 8 ∨ k = 9 ∨ k = 10 ∨ k = 11 ∨ k = 12 ∨ k = 13 ∨ k = 14 ∨ k = 15 by omega) with rfl | rfl | rfl | rfl | rfl | rfl | rfl | rfl | rfl | rfl | rfl | rfl | rfl | rfl | rfl | rfl <;> rfl⟩, (by rw [unhide HV3] <;> rfl), rfl⟩
theorem rd_r20 {k6 b3 gv vl vc v zb zl zc : Nat} {ix : Int} {VB : Bool} (hT : T.size = 401) (s2 : T[2]? = some (.pointer (some ⟨g, k6, none⟩))) (s3 : T[3]? = some (.pointer (some ⟨b3, 0, none⟩))) (s4 : T[4]? = some (.int .i64 ix)) (h5 : w.cell? ⟨g, k6 + 5, none⟩ = some (.slice (some ⟨gv, 0, none⟩) vl vc)) (x1 : w.cell? ⟨b3, 1, none⟩ = some (.int .i64 (v : Nat))) (hv : v < vl) (hvl : vl ≤ 2000000) (hz : w.cell? ⟨gv, v, none⟩ = some (.slice (some ⟨zb, 0, none⟩) zl zc)) (hzl : zl ≤ 1000) (hVB : VB = decide (0 ≤ ix ∧ ix ≤ (zl : Int) - 1))
  (hQ : ∀ T', (Fq.Kp 16 T T' ∧ T'[134]? = some (.bool (!VB))) → Q .normal ⟨T', []⟩ (w.drew)) : (Fq.reg Tryz.f22 20).wp Tryz.prog Q ⟨T, []⟩ w := by
 have HQ := hide hQ
 clear hQ
 conv => arg 2; whnf
 refine Fq.norm (fun T' w' => Fq.Kp 16 T T' ∧ T'[134]? = some (.bool (!VB)) ∧ w' = (w.drew)) (fun T' w' h => by obtain ⟨h0, h1, rfl⟩ := h; exact (unhide HQ) T' ⟨h0, h1⟩) ?_
 obtain ⟨t, ht⟩ : ∃ t : Nat → Value, t = fun i => T.getD i (.tuple #[]) := ⟨_, rfl⟩
 have hTl : T = Fq.w401 t := by rw [ht]; exact Fq.ls_is hT
 unfold Fq.w401 at hTl
 rw [(congrFun ht 2).trans (Fq.gd s2), (congrFun ht 3).trans (Fq.gd s3), (congrFun ht 4).trans (Fq.gd s4)] at hTl
 clear ht hT s2 s3 s4
 refine Fq.fr hTl ?_
 have HTL := hide hTl
 clear hTl
 have H1 := hide (between_any ix 0 ((zl : Int) - 1) w.drew)
 rw [← hVB] at H1
 have v0 : (0 : Int) ≤ (v : Int) := by omega
 have v1 : (v : Int) < (vl : Int) := by omega
 have hw0 : IntKind.i64.wrap ((zl : Int) - 1) = (zl : Int) - 1 := by rw [IntKind.wrap_i64]; omega
 clear hVB
 go_region_law (go_simp; go_at_call 19; refine (unhide H1).mono ?_; rintro r6 w6 ⟨rfl, hw6⟩; have hw7 := hw6.symm; clear hw6; subst hw7)
 all_goals exact ⟨rfl, ⟨by rw [unhide HTL]; rfl, fun k hk => by rw [unhide HTL]; rcases (show k = 0 ∨ k = 1 ∨ k = 2 ∨ k = 3 ∨ k = 4 ∨ k = 5 ∨ k = 6 ∨ k = 7 ∨ k = 8 ∨ k = 9 ∨ k = 10 ∨ k = 11 ∨ k = 12 ∨ k = 13 ∨ k = 14 ∨ k = 15 by omega) with rfl | rfl | rfl | rfl | rfl | rfl | rfl | rfl | rfl | rfl | rfl | rfl | rfl | rfl | rfl | rfl <;> rfl⟩, (by first | rfl | simp), rfl⟩
end
end Go.Proofs.YtpfogjplnodacaaGreat
namespace Go.Proofs.YtpfogjplnodacaaGreat
open Go.RowKit Go.Maps
set_option linter.unusedVariables false
section
variable {T : Array Value} {w : World} {Q : Exit → Act → World → Prop} {bm g c : Nat}
theorem rd_r39 {k6 b3 gv vl vc v zb zl zc : Nat} {ix : Int} {VB : Bool} (hT : T.size = 401) (s2 : T[2]? = some (.pointer (some ⟨g, k6, none⟩))) (s3 : T[3]? = some (.pointer (some ⟨b3, 0, none⟩))) (s11 : T[11]? = some (.int .i64 ix)) (h5 : w.cell? ⟨g, k6 + 5, none⟩ = some (.slice (some ⟨gv, 0, none⟩) vl vc)) (x1 : w.cell? ⟨b3, 1, none⟩ = some (.int .i64 (v : Nat))) (hv : v < vl) (hvl : vl ≤ 2000000) (hz : w.cell? ⟨gv, v, none⟩ = some (.slice (some ⟨zb, 0, none⟩) zl zc)) (hzl : zl ≤ 1000) (hVB : VB = decide (0 ≤ ix ∧ ix ≤ (zl : Int) - 1))
  (hQ : ∀ T', (Fq.Kp 16 T T' ∧ T'[237]? = some (.bool (!VB))) → Q .normal ⟨T', []⟩ (w.drew)) : (Fq.reg Tryz.f22 39).wp Tryz.prog Q ⟨T, []⟩ w := by
 have HQ := hide hQ
 clear hQ
 conv => arg 2; whnf
 refine Fq.norm (fun T' w' => Fq.Kp 16 T T' ∧ T'[237]? = some (.bool (!VB)) ∧ w' = (w.drew)) (fun T' w' h => by obtain ⟨h0, h1, rfl⟩ := h; exact (unhide HQ) T' ⟨h0, h1⟩) ?_
 obtain ⟨t, ht⟩ : ∃ t : Nat → Value, t = fun i => T.getD i (.tuple #[]) := ⟨_, rfl⟩
 have hTl : T = Fq.w401 t := by rw [ht]; exact Fq.ls_is hT
 unfold Fq.w401 at hTl
 rw [(congrFun ht 2).trans (Fq.gd s2), (congrFun ht 3).trans (Fq.gd s3), (congrFun ht 11).trans (Fq.gd s11)] at hTl
 clear ht hT s2 s3 s11
 refine Fq.fr hTl ?_
 have HTL := hide hTl
 clear hTl
 have H1 := hide (between_any ix 0 ((zl : Int) - 1) w.drew)
 rw [← hVB] at H1
 have v0 : (0 : Int) ≤ (v : Int) := by omega
 have v1 : (v : Int) < (vl : Int) := by omega
 have hw0 : IntKind.i64.wrap ((zl : Int) - 1) = (zl : Int) - 1 := by rw [IntKind.wrap_i64]; omega
 clear hVB
 go_region_law (go_simp; go_at_call 19; refine (unhide H1).mono ?_; rintro r6 w6 ⟨rfl, hw6⟩; have hw7 := hw6.symm; clear hw6; subst hw7)
 all_goals exact ⟨rfl, ⟨by rw [unhide HTL]; rfl, fun k hk => by rw [unhide HTL]; rcases (show k = 0 ∨ k = 1 ∨ k = 2 ∨ k = 3 ∨ k = 4 ∨ k = 5 ∨ k = 6 ∨ k = 7 ∨ k = 8 ∨ k = 9 ∨ k = 10 ∨ k = 11 ∨ k = 12 ∨ k = 13 ∨ k = 14 ∨ k = 15 by omega) with rfl | rfl | rfl | rfl | rfl | rfl | rfl | rfl | rfl | rfl | rfl | rfl | rfl | rfl | rfl | rfl <;> rfl⟩, (by first | rfl | simp), rfl⟩
theorem rd_r16 {k6 b3 gv vl vc v zb zl zc : Nat} {y : Int} (hT : T.size = 401) (s0 : T[0]? = some (.pointer (some ⟨bm, 0, none⟩))) (s2 : T[2]? = some (.pointer (some ⟨g, k6, none⟩))) (s3 : T[3]? = some (.pointer (some ⟨b3, 0, none⟩))) {R : World → Prop} (h5 : w.cell? ⟨g, k6 + 5, none⟩ = some (.slice (some ⟨gv, 0, none⟩) vl vc)) (x1 : w.cell? ⟨b3, 1, none⟩ = some (.int .i64 (v : Nat))) (hv : v < vl) (hvl : vl ≤ 2000000) (hz : w.cell? ⟨gv, v, none⟩ = some (.slice (some ⟨zb, 0, none⟩) zl zc)) (hzl : zl ≤ 1000) (h0 : 0 < zl) (hy : w.cell? ⟨zb, 0, none⟩ = some (.int .i64 y)) (hc : Calls Tryz.prog 44 #[.pointer (some ⟨bm, 0, none⟩), .int .i64 y] w.drew fun r w' => r = .returned (.tuple #[]) ∧ R w')
  (hQ : ∀ T' w', (Fq.Kp 16 T T' ∧ R w') → Q .normal ⟨T', []⟩ w') : (Fq.reg Tryz.f22 16).wp Tryz.prog Q ⟨T, []⟩ w := by
 have HQ := hide hQ
 clear hQ
 conv => arg 2; whnf
 refine Fq.norm (fun T' w' => Fq.Kp 16 T T' ∧ R w') (fun T' w' h => (unhide HQ) T' w' h) ?_
 obtain ⟨t, ht⟩ : ∃ t : Nat → Value, t = fun i => T.getD i (.tuple #[]) := ⟨_, rfl⟩
 have hTl : T = Fq.w401 t := by rw [ht]; exact Fq.ls_is hT
 unfold Fq.w401 at hTl
 rw [(congrFun ht 0).trans (Fq.gd s0), (congrFun ht 2).trans (Fq.gd s2), (congrFun ht 3).trans (Fq.gd s3)] at hTl
 clear ht hT s0 s2 s3
 refine Fq.fr hTl ?_
 have HTL := hide hTl
 clear hTl
 have v0 : (0 : Int) ≤ (v : Int) := by omega
 have v1 : (v : Int) < (vl : Int) := by omega
 have i1 : (0 : Int) < (zl : Int) := by omega
 have HC := hide hc
 clear hc
 go_region_law (go_simp; go_at_call 44; refine (unhide HC).mono ?_; rintro r6 w6 ⟨rfl, hb6⟩; have HB := hide hb6; clear hb6)
 all_goals exact ⟨rfl, ⟨by rw [unhide HTL]; rfl, fun k hk => by rw [unhide HTL]; rcases (show k = 0 ∨ k = 1 ∨ k = 2 ∨ k = 3 ∨ k = 4 ∨ k = 5 ∨ k = 6 ∨ k = 7 ∨ k = 8 ∨ k = 9 ∨ k = 10 ∨ k = 11 ∨ k = 12 ∨ k = 13 ∨ k = 14 ∨ k = 15 by omega) with rfl | rfl | rfl | rfl | rfl | rfl | rfl | rfl | rfl | rfl | rfl | rfl | rfl | rfl | rfl | rfl <;> rfl⟩, unhide HB⟩
theorem rd_r22 {k6 b3 gv vl vc v zb zl zc : Nat} {y : Int} {i : Nat} (hT : T.size = 401) (s0 : T[0]? = some (.pointer (some ⟨bm, 0, none⟩))) (s2 : T[2]? = some (.pointer (some ⟨g, k6, none⟩))) (s3 : T[3]? = some (.pointer (some ⟨b3, 0, none⟩))) (s4 : T[4]? = some (.int .i64 (i : Nat))) {R : World → Prop} (h5 : w.cell? ⟨g, k6 + 5, none⟩ = some (.slice (some ⟨gv, 0, none⟩) vl vc)) (x1 : w.cell? ⟨b3, 1, none⟩ = some (.int .i64 (v : Nat))) (hv : v < vl) (hvl : vl ≤ 2000000) (hz : w.cell? ⟨gv, v, none⟩ = some (.slice (some ⟨zb, 0, none⟩) zl zc)) (hzl : zl ≤ 1000) (hi : i < zl) (hy : w.cell? ⟨zb, i, none⟩ = some (.int .i64 y)) (hc : Calls Tryz.prog 44 #[.pointer (some ⟨bm, 0, none⟩), .int .i64 y] w.drew fun r w' => r = .returned (.tuple #[]) ∧ R w')
  (hQ : ∀ T' w', (Fq.Kp 16 T T' ∧ R w') → Q .normal ⟨T', []⟩ w') : (Fq.reg Tryz.f22 22).wp Tryz.prog Q ⟨T, []⟩ w := by
 have HQ := hide hQ
 clear hQ
 conv => arg 2; whnf
 refine Fq.norm (fun T' w' => Fq.Kp 16 T T' ∧ R w') (fun T' w' h => (unhide HQ) T' w' h) ?_
 obtain ⟨t, ht⟩ : ∃ t : Nat → Value, t = fun i => T.getD i (.tuple #[]) := ⟨_, rfl⟩
 have hTl : T = Fq.w401 t := by rw [ht]; exact Fq.ls_is hT
 unfold Fq.w401 at hTl
 rw [(congrFun ht 0).trans (Fq.gd s0), (congrFun ht 2).trans (Fq.gd s2), (congrFun ht 3).trans (Fq.gd s3), (congrFun ht 4).trans (Fq.gd s4)] at hTl
 clear ht hT s0 s2 s3 s4
 refine Fq.fr hTl ?_
 have HTL := hide hTl
 clear hTl
 have v0 : (0 : Int) ≤ (v : Int) := by omega
 have v1 : (v : Int) < (vl : Int) := by omega
 have i0 : (0 : Int) ≤ (i : Int) := by omega
 have i1 : (i : Int) < (zl : Int) := by omega
 have HC := hide hc
 clear hc
 go_region_law (go_simp; go_at_call 44; refine (unhide HC).mono ?_; rintro r6 w6 ⟨rfl, hb6⟩; have HB := hide hb6; clear hb6)
 all_goals exact ⟨rfl, ⟨by rw [unhide HTL]; rfl, fun k hk => by rw [unhide HTL]; rcases (show k = 0 ∨ k = 1 ∨ k = 2 ∨ k = 3 ∨ k = 4 ∨ k = 5 ∨ k = 6 ∨ k = 7 ∨ k = 8 ∨ k = 9 ∨ k = 10 ∨ k = 11 ∨ k = 12 ∨ k = 13 ∨ k = 14 ∨ k = 15 by omega) with rfl | rfl | rfl | rfl | rfl | rfl | rfl | rfl | rfl | rfl | rfl | rfl | rfl | rfl | rfl | rfl <;> rfl⟩, unhide HB⟩
theorem rd_r34 {k6 b3 v : Nat} {at_ : Int} {z : Int} (hT : T.size = 401) (s0 : T[0]? = some (.pointer (some ⟨bm, 0, none⟩))) (s2 : T[2]? = some (.pointer (some ⟨g, k6, none⟩))) (s3 : T[3]? = some (.pointer (some ⟨b3, 0, none⟩))) (s9 : T[9]? = some (.int .i64 z)) {R : World → Prop} (h3 : w.cell? ⟨g, k6 + 3, none⟩ = some (.int .i64 at_)) (x1 : w.cell? ⟨b3, 1, none⟩ = some (.int .i64 (v : Nat))) (hc : Calls Tryz.prog 48 #[.pointer (some ⟨bm, 0, none⟩), .int .i64 at_, .int .i64 (v : Nat), .int .i64 0, .int .i64 z] w.drew fun r w' => r = .returned (.tuple #[]) ∧ R w')
  (hQ : ∀ T' w', (Fq.Kp 16 T T' ∧ R w') → Q .normal ⟨T', []⟩ w') : (Fq.reg Tryz.f22 34).wp Tryz.prog Q ⟨T, []⟩ w := by
 have HQ := hide hQ
 clear hQ
 conv => arg 2; whnf
 refine Fq.norm (fun T' w' => Fq.Kp 16 T T' ∧ R w') (fun T' w' h => (unhide HQ) T' w' h) ?_
 obtain ⟨t, ht⟩ : ∃ t : Nat → Value, t = fun i => T.getD i (.tuple #[]) := ⟨_, rfl⟩
 have hTl : T = Fq.w401 t := by rw [ht]; exact Fq.ls_is hT
 unfold Fq.w401 at hTl
 rw [(congrFun ht 0).trans (Fq.gd s0), (congrFun ht 2).trans (Fq.gd s2), (congrFun ht 3).trans (Fq.gd s3), (congrFun ht 9).trans (Fq.gd s9)] at hTl
 clear ht hT s0 s2 s3 s9
 refine Fq.fr hTl ?_
 have HTL := hide hTl
 clear hTl
 have HC := hide hc
 clear hc
 go_region_law (go_simp; go_at_call 48; refine (unhide HC).mono ?_; rintro r6 w6 ⟨rfl, hb6⟩; have HB := hide hb6; clear hb6)
 all_goals exact ⟨rfl, ⟨by rw [unhide HTL]; rfl, fun k hk => by rw [unhide HTL]; rcases (show k = 0 ∨ k = 1 ∨ k = 2 ∨ k = 3 ∨ k = 4 ∨ k = 5 ∨ k = 6 ∨ k = 7 ∨ k = 8 ∨ k = 9 ∨ k = 10 ∨ k = 11 ∨ k = 12 ∨ k = 13 ∨ k = 14 ∨ k = 15 by omega) with rfl | rfl | rfl | rfl | rfl | rfl | rfl | rfl | rfl | rfl | rfl | rfl | rfl | rfl | rfl | rfl <;> rfl⟩, unhide HB⟩
end
end Go.Proofs.YtpfogjplnodacaaGreat
namespace Go.Proofs.YtpfogjplnodacaaGreat
open Go.RowKit Go.Maps
set_option linter.unusedVariables false
section
variable {T : Array Value} {w : World} {Q : Exit → Act → World → Prop} {bm g c : Nat}
theorem rd_r41 {k6 b3 v : Nat} {at_ : Int} {z : Int} {i : Nat} (hT : T.size = 401) (s0 : T[0]? = some (.pointer (some ⟨bm, 0, none⟩))) (s2 : T[2]? = some (.pointer (some ⟨g, k6, none⟩))) (s3 : T[3]? = some (.pointer (some ⟨b3, 0, none⟩))) (s10 : T[10]? = some (.int .i64 z)) (s11 : T[11]? = some (.int .i64 (i : Nat))) {R : World → Prop} (h3 : w.cell? ⟨g, k6 + 3, none⟩ = some (.int .i64 at_)) (x1 : w.cell? ⟨b3, 1, none⟩ = some (.int .i64 (v : Nat))) (hc : Calls Tryz.prog 48 #[.pointer (some ⟨bm, 0, none⟩), .int .i64 at_, .int .i64 (v : Nat), .int .i64 (i : Nat), .int .i64 z] w.drew fun r w' => r = .returned (.tuple #[]) ∧ R w')
  (hQ : ∀ T' w', (Fq.Kp 16 T T' ∧ R w') → Q .normal ⟨T', []⟩ w') : (Fq.reg Tryz.f22 41).wp Tryz.prog Q ⟨T, []⟩ w := by
 have HQ := hide hQ
 clear hQ
 conv => arg 2; whnf
 refine Fq.norm (fun T' w' => Fq.Kp 16 T T' ∧ R w') (fun T' w' h => (unhide HQ) T' w' h) ?_
 obtain ⟨t, ht⟩ : ∃ t : Nat → Value, t = fun i => T.getD i (.tuple #[]) := ⟨_, rfl⟩
 have hTl : T = Fq.w401 t := by rw [ht]; exact Fq.ls_is hT
 unfold Fq.w401 at hTl
 rw [(congrFun ht 0).trans (Fq.gd s0), (congrFun ht 2).trans (Fq.gd s2), (congrFun ht 3).trans (Fq.gd s3), (congrFun ht 10).trans (Fq.gd s10), (congrFun ht 11).trans (Fq.gd s11)] at hTl
 clear ht hT s0 s2 s3 s10 s11
 refine Fq.fr hTl ?_
 have HTL := hide hTl
 clear hTl
 have HC := hide hc
 clear hc
 go_region_law (go_simp; go_at_call 48; refine (unhide HC).mono ?_; rintro r6 w6 ⟨rfl, hb6⟩; have HB := hide hb6; clear hb6)
 all_goals exact ⟨rfl, ⟨by rw [unhide HTL]; rfl, fun k hk => by rw [unhide HTL]; rcases (show k = 0 ∨ k = 1 ∨ k = 2 ∨ k = 3 ∨ k = 4 ∨ k = 5 ∨ k = 6 ∨ k = 7 ∨ k = 8 ∨ k = 9 ∨ k = 10 ∨ k = 11 ∨ k = 12 ∨ k = 13 ∨ k = 14 ∨ k = 15 by omega) with rfl | rfl | rfl | rfl | rfl | rfl | rfl | rfl | rfl | rfl | rfl | rfl | rfl | rfl | rfl | rfl <;> rfl⟩, unhide HB⟩
theorem rd_r49 {k6 b3 v : Nat} {at_ : Int} {z : Int} (hT : T.size = 401) (s0 : T[0]? = some (.pointer (some ⟨bm, 0, none⟩))) (s2 : T[2]? = some (.pointer (some ⟨g, k6, none⟩))) (s3 : T[3]? = some (.pointer (some ⟨b3, 0, none⟩))) (s12 : T[12]? = some (.int .i64 z)) {R : World → Prop} (h3 : w.cell? ⟨g, k6 + 3, none⟩ = some (.int .i64 at_)) (x1 : w.cell? ⟨b3, 1, none⟩ = some (.int .i64 (v : Nat))) (hc : Calls Tryz.prog 48 #[.pointer (some ⟨bm, 0, none⟩), .int .i64 at_, .int .i64 (v : Nat), .int .i64 0, .int .i64 z] w.drew fun r w' => r = .returned (.tuple #[]) ∧ R w')
  (hQ : ∀ T' w', (Fq.Kp 16 T T' ∧ R w') → Q .normal ⟨T', []⟩ w') : (Fq.reg Tryz.f22 49).wp Tryz.prog Q ⟨T, []⟩ w := by
 have HQ := hide hQ
 clear hQ
 conv => arg 2; whnf
 refine Fq.norm (fun T' w' => Fq.Kp 16 T T' ∧ R w') (fun T' w' h => (unhide HQ) T' w' h) ?_
 obtain ⟨t, ht⟩ : ∃ t : Nat → Value, t = fun i => T.getD i (.tuple #[]) := ⟨_, rfl⟩
 have hTl : T = Fq.w401 t := by rw [ht]; exact Fq.ls_is hT
 unfold Fq.w401 at hTl
 rw [(congrFun ht 0).trans (Fq.gd s0), (congrFun ht 2).trans (Fq.gd s2), (congrFun ht 3).trans (Fq.gd s3), (congrFun ht 12).trans (Fq.gd s12)] at hTl
 clear ht hT s0 s2 s3 s12
 refine Fq.fr hTl ?_
 have HTL := hide hTl
 clear hTl
 have HC := hide hc
 clear hc
 go_region_law (go_simp; go_at_call 48; refine (unhide HC).mono ?_; rintro r6 w6 ⟨rfl, hb6⟩; have HB := hide hb6; clear hb6)
 all_goals exact ⟨rfl, ⟨by rw [unhide HTL]; rfl, fun k hk => by rw [unhide HTL]; rcases (show k = 0 ∨ k = 1 ∨ k = 2 ∨ k = 3 ∨ k = 4 ∨ k = 5 ∨ k = 6 ∨ k = 7 ∨ k = 8 ∨ k = 9 ∨ k = 10 ∨ k = 11 ∨ k = 12 ∨ k = 13 ∨ k = 14 ∨ k = 15 by omega) with rfl | rfl | rfl | rfl | rfl | rfl | rfl | rfl | rfl | rfl | rfl | rfl | rfl | rfl | rfl | rfl <;> rfl⟩, unhide HB⟩
theorem rd_r66 {k : Nat} {at_ z : Int} (hT : T.size = 401) (s0 : T[0]? = some (.pointer (some ⟨bm, 0, none⟩))) (s15 : T[15]? = some (.int .i64 z)) {R : World → Prop} (h7 : w.cell? ⟨bm, 7, none⟩ = some (.slice (some ⟨g, 0, none⟩) (k + 2) c)) (hk : k ≤ 1000) (ha : w.cell? ⟨g, k * 6 + 3, none⟩ = some (.int .i64 at_)) (hc : Calls Tryz.prog 43 #[.pointer (some ⟨bm, 0, none⟩), .int .i64 6, .int .i64 at_, .int .i64 0, .int .i64 0, .int .i64 z] w.drew fun r w' => r = .returned (.tuple #[]) ∧ R w')
  (hQ : ∀ T' w', (Fq.Kp 16 T T' ∧ R w') → Q .normal ⟨T', []⟩ w') : (Fq.reg Tryz.f22 66).wp Tryz.prog Q ⟨T, []⟩ w := by
 have HQ := hide hQ
 clear hQ
 conv => arg 2; whnf
 refine Fq.norm (fun T' w' => Fq.Kp 16 T T' ∧ R w') (fun T' w' h => (unhide HQ) T' w' h) ?_
 obtain ⟨t, ht⟩ : ∃ t : Nat → Value, t = fun i => T.getD i (.tuple #[]) := ⟨_, rfl⟩
 have hTl : T = Fq.w401 t := by rw [ht]; exact Fq.ls_is hT
 unfold Fq.w401 at hTl
 rw [(congrFun ht 0).trans (Fq.gd s0), (congrFun ht 15).trans (Fq.gd s15)] at hTl
 clear ht hT s0 s15
 refine Fq.fr hTl ?_
 have HTL := hide hTl
 clear hTl
 have hw0 : IntKind.i64.wrap (((k + 2 : Nat) : Int) - 2) = (k : Int) := by rw [IntKind.wrap_i64]; omega
 have hw1 : IntKind.i64.wrap ((k : Int) + 2 - 2) = (k : Int) := by rw [IntKind.wrap_i64]; omega
 have hw2 : IntKind.i64.wrap (((k + 2 : Nat) : Int) - 1) = (k : Int) + 1 := by rw [IntKind.wrap_i64]; omega
 have hw3 : IntKind.i64.wrap ((k : Int) + 2 - 1) = (k : Int) + 1 := by rw [IntKind.wrap_i64]; omega
 have hw4 : IntKind.i64.wrap (k : Int) = (k : Int) := by rw [IntKind.wrap_i64]; omega
 have hw5 : IntKind.i64.wrap ((k : Int) + 1) = (k : Int) + 1 := by rw [IntKind.wrap_i64]; omega
 have k0 : (0 : Int) ≤ (k : Int) := by omega
 have k1 : (k : Int) < (k : Int) + 2 := by omega
 have k2 : (k : Int) < ((k + 2 : Nat) : Int) := by omega
 have k3 : (0 : Int) ≤ (k : Int) + 1 := by omega
 have HC := hide hc
 clear hc
 go_region_law (go_simp; go_at_call 43; refine (unhide HC).mono ?_; rintro r6 w6 ⟨rfl, hb6⟩; have HB := hide hb6; clear hb6)
 all_goals exact ⟨rfl, ⟨by rw [unhide HTL]; rfl, fun k hk => by rw [unhide HTL]; rcases (show k = 0 ∨ k = 1 ∨ k = 2 ∨ k = 3 ∨ k = 4 ∨ k = 5 ∨ k = 6 ∨ k = 7 ∨ k = 8 ∨ k = 9 ∨ k = 10 ∨ k = 11 ∨ k = 12 ∨ k = 13 ∨ k = 14 ∨ k = 15 by omega) with rfl | rfl | rfl | rfl | rfl | rfl | rfl | rfl | rfl | rfl | rfl | rfl | rfl | rfl | rfl | rfl <;> rfl⟩, unhide HB⟩
theorem rd_r67 {k : Nat} (hT : T.size = 401) (s0 : T[0]? = some (.pointer (some ⟨bm, 0, none⟩))) (h7 : w.cell? ⟨bm, 7, none⟩ = some (.slice (some ⟨g, 0, none⟩) (k + 2) c)) (hk : k ≤ 1000) (hf : w.frozen? ⟨bm, 7, none⟩ = false) (hkc : k + 2 ≤ c) (hcc : c ≤ 9223372036854775807)
  (hQ : ∀ T', (Fq.Kp 16 T T') → Q .normal ⟨T', []⟩ ((w.setCell ⟨bm, 7, none⟩ (.slice (some ⟨g, 0, none⟩) (k + 1) c)).drew)) : (Fq.reg Tryz.f22 67).wp Tryz.prog Q ⟨T, []⟩ w := by
 have HQ := hide hQ
 clear hQ
 conv => arg 2; whnf
 refine Fq.norm (fun T' w' => Fq.Kp 16 T T' ∧ w' = ((w.setCell ⟨bm, 7, none⟩ (.slice (some ⟨g, 0, none⟩) (k + 1) c)).drew)) (fun T' w' h => by obtain ⟨h0, rfl⟩ := h; exact (unhide HQ) T' h0) ?_
 obtain ⟨t, ht⟩ : ∃ t : Nat → Value, t = fun i => T.getD i (.tuple #[]) := ⟨_, rfl⟩
 have hTl : T = Fq.w401 t := by rw [ht]; exact Fq.ls_is hT
 unfold Fq.w401 at hTl
 rw [(congrFun ht 0).trans (Fq.gd s0)] at hTl
 clear ht hT s0
 refine Fq.fr hTl ?_
 have HTL := hide hTl
 clear hTl
 have hw0 : IntKind.i64.wrap (((k + 2 : Nat) : Int) - 2) = (k : Int) := by rw [IntKind.wrap_i64]; omega
 have hw1 : IntKind.i64.wrap ((k : Int) + 2 - 2) = (k : Int) := by rw [IntKind.wrap_i64]; omega
 have hw2 : IntKind.i64.wrap (((k + 2 : Nat) : Int) - 1) = (k : Int) + 1 := by rw [IntKind.wrap_i64]; omega
 have hw3 : IntKind.i64.wrap ((k : Int) + 2 - 1) = (k : Int) + 1 := by rw [IntKind.wrap_i64]; omega
 have hw4 : IntKind.i64.wrap (k : Int) = (k : Int) := by rw [IntKind.wrap_i64]; omega
 have hw5 : IntKind.i64.wrap ((k : Int) + 1) = (k : Int) + 1 := by rw [IntKind.wrap_i64]; omega
 have k0 : (0 : Int) ≤ (k : Int) := by omega
 have k1 : (k : Int) < (k : Int) + 2 := by omega
 have k2 : (k : Int) < ((k + 2 : Nat) : Int) := by omega
 have k3 : (0 : Int) ≤ (k : Int) + 1 := by omega
 have k4 : (k : Int) + 1 ≤ (c : Int) := by omega
 go_region_law (fail)
 all_goals exact ⟨rfl, ⟨by rw [unhide HTL]; rfl, fun k hk => by rw [unhide HTL]; rcases (show k = 0 ∨ k = 1 ∨ k = 2 ∨ k = 3 ∨ k = 4 ∨ k = 5 ∨ k = 6 ∨ k = 7 ∨ k = 8 ∨ k = 9 ∨ k = 10 ∨ k = 11 ∨ k = 12 ∨ k = 13 ∨ k = 14 ∨ k = 15 by omega) with rfl | rfl | rfl | rfl | rfl | rfl | rfl | rfl | rfl | rfl | rfl | rfl | rfl | rfl | rfl | rfl <;> rfl⟩, rfl⟩
end
end Go.Proofs.YtpfogjplnodacaaGreat
