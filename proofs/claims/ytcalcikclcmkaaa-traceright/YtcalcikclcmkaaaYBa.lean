/-
  Regions of the document's Machine.Back, each in a theorem of its own. By the verifier; written by mkyb.py.
-/
import Derived.Test.YtcalcikclcmkaaaJB
import Derived.Deep.RegionLaw
set_option maxRecDepth 100000
set_option maxHeartbeats 3200000
namespace Go.Proofs.Ytcalcikclcmkaaa
open Go.RowKit
set_option linter.unusedVariables false
section
variable {T : Array Value} {w : World} {Q : Exit → Act → World → Prop} {bm g c : Nat}
theorem mb_r0 {n : Nat} {VB : Bool} (hT : T.size = 104) (s0 : T[0]? = some (.pointer (some ⟨bm, 0, none⟩))) (h6 : w.cell? ⟨bm, 6, none⟩ = some (.slice (some ⟨g, 0, none⟩) n c)) (hn : n ≤ 1000) (hVB : VB = decide (n = 1))
  (hQ : ∀ T', (Fq.Kp 7 T T' ∧ T'[12]? = some (.bool VB)) → Q .normal ⟨T', []⟩ (w)) : (Fq.reg Try.f75 0).wp Try.prog Q ⟨T, []⟩ w := by
 have a0 := fun h => Fq.el s0 h
 have d0 := Fq.gd s0
 have hu : undef = Value.tuple #[] := rfl
 have HQ := hide hQ
 clear hQ
 conv => arg 2; whnf
 by_cases hR : n = 1
 · have HV3 := hide (show VB = true by rw [hVB, decide_eq_true hR])
   subst hR
   clear hVB
   go_wp2_with fail
   exact (unhide HQ) _ ⟨(by (repeat (with_reducible refine Fq.Kp.set ?_ (by decide) _)); with_reducible exact Fq.Kp.refl _ _), (Fq.set_at _ (by simp [hT]) _).trans (by rw [unhide HV3] <;> rfl)⟩
 · have HV3 := hide (show VB = false by rw [hVB, decide_eq_false hR])
   have b0 : (((n : Nat) : Int) == 1) = false := by simp; omega
   clear hVB hR
   go_wp2_with fail
   exact (unhide HQ) _ ⟨(by (repeat (with_reducible refine Fq.Kp.set ?_ (by decide) _)); with_reducible exact Fq.Kp.refl _ _), (Fq.set_at _ (by simp [hT]) _).trans (by rw [unhide HV3] <;> rfl)⟩
theorem mb_r1 (hT : T.size = 104) (s0 : T[0]? = some (.pointer (some ⟨bm, 0, none⟩))) {R : World → Prop} (hc : Calls Try.prog 76 #[.pointer (some ⟨bm, 0, none⟩), .int .i64 (-1), .int .i64 0] w fun r w' => r = .returned (.tuple #[]) ∧ R w')
  (hQ : ∀ T' w', (Fq.Kp 7 T T' ∧ R w') → Q .normal ⟨T', []⟩ w') : (Fq.reg Try.f75 1).wp Try.prog Q ⟨T, []⟩ w := by
 have a0 := fun h => Fq.el s0 h
 have d0 := Fq.gd s0
 have hu : undef = Value.tuple #[] := rfl
 have HQ := hide hQ
 clear hQ
 conv => arg 2; whnf
 have HC := hide hc
 clear hc
 go_wp2_with (with_reducible refine (Calls.mono (unhide HC) ?_); rintro r w2 ⟨rfl, hb2⟩; have HB := hide hb2; clear hb2)
 exact (unhide HQ) _ _ ⟨(by (repeat (with_reducible refine Fq.Kp.set ?_ (by decide) _)); with_reducible exact Fq.Kp.refl _ _), unhide HB⟩
theorem mb_r2 {k b o q rl rc ql qc : Nat} {rk rn z : Int} {ra : Option Addr} {ok : Bool} (hT : T.size = 104) (s0 : T[0]? = some (.pointer (some ⟨bm, 0, none⟩))) {R : World → Prop} (hT2 : ∀ V, Below w.heap.size w V → Calls Try.prog 74 #[.pointer (some ⟨bm, 0, none⟩)] V fun r w' => r = .returned (.pointer (some ⟨g, k * 5, none⟩)) ∧ Below V.heap.size V w') (hF : ∀ V, Below w.heap.size w V → V.cell? ⟨bm, 0, none⟩ = some (.slice (some ⟨b, o, none⟩) ql qc) ∧ V.cell? ⟨g, k * 5 + 1, none⟩ = some (.int .i64 (q : Nat)) ∧ V.cell? ⟨b, o + q * 6 + 3, none⟩ = some (.int .i64 rk) ∧ V.cell? ⟨b, o + q * 6 + 4, none⟩ = some (.int .i64 rn) ∧ V.cell? ⟨b, o + q * 6 + 5, none⟩ = some (.slice ra rl rc)) (hq : q < ql) (hql : ql ≤ 1000) (hV : ∀ V, Below w.heap.size w V → Calls Try.prog 80 #[.pointer (some ⟨bm, 0, none⟩), .agg #[.int .i64 rk, .int .i64 rn, .slice ra rl rc]] V fun r w' => r = .returned (.tuple #[.int .i64 z, .bool ok]) ∧ R w')
  (hQ : ∀ T' w', (Fq.Kp 2 T T' ∧ T'[2]? = some (.int .i64 z) ∧ T'[3]? = some (.bool ok) ∧ R w') → Q .normal ⟨T', []⟩ w') : (Fq.reg Try.f75 2).wp Try.prog Q ⟨T, []⟩ w := by
 have HQ := hide hQ
 clear hQ
 conv => arg 2; whnf
 refine Fq.norm (fun T' w' => Fq.Kp 2 T T' ∧ T'[2]? = some (.int .i64 z) ∧ T'[3]? = some (.bool ok) ∧ R w') (fun T' w' h => (unhide HQ) T' w' h) ?_
 obtain ⟨t, ht⟩ : ∃ t : Nat → Value, t = fun i => T.getD i (.tuple #[]) := ⟨_, rfl⟩
 have hTl : T = #[t 0, t 1, t 2, t 3, t 4, t 5, t 6, t 7, t 8, t 9, t 10, t 11, t 12, t 13, t 14, t 15, t 16, t 17, t 18, t 19, t 20, t 21, t 22, t 23, t 24, t 25, t 26, t 27, t 28, t 29, t 30, t 31, t 32, t 33, t 34, t 35, t 36, t 37, t 38, t 39, t 40, t 41, t 42, t 43, t 44, t 45, t 46, t 47, t 48, t 49, t 50, t 51, t 52, t 53, t 54, t 55, t 56, t 57, t 58, t 59, t 60, t 61, t 62, t 63, t 64, t 65, t 66, t 67, t 68, t 69, t 70, t 71, t 72, t 73, t 74, t 75, t 76, t 77, t 78, t 79, t 80, t 81, t 82, t 83, t 84, t 85, t 86, t 87, t 88, t 89, t 90, t 91, t 92, t 93, t 94, t 95, t 96, t 97, t 98, t 99, t 100, t 101, t 102, t 103] := by rw [ht]; exact Fq.ls_is hT
 rw [(congrFun ht 0).trans (Fq.gd s0)] at hTl
 clear ht hT s0
 refine Fq.fr hTl ?_
 have HTL := hide hTl
 clear hTl
 have HT := hide hT2
 have HF := hide hF
 have HV := hide hV
 obtain ⟨z0, _, _, _, _⟩ := hF w (Below.refl _ _)
 have q0 : (0 : Int) ≤ (q : Int) := by omega
 have q1 : (q : Int) < (ql : Int) := by omega
 clear hT2 hF hV
 go_region_law (first
  | (go_simp; go_at_call 74; refine ((unhide HT) _ ((Below.refl _ _).drew)).mono ?_; rintro r5 w5 ⟨rfl, hb5⟩; have HB5 := hide (show Below w.heap.size w w5 from ((Below.refl w.heap.size w).drew).trans (hb5.mono (Nat.le_refl _))); obtain ⟨y0, y1, y2, y3, y4⟩ := (unhide HF) _ (unhide HB5); clear hb5)
  | (go_simp; go_at_call 80; refine ((unhide HV) _ (unhide HB5)).mono ?_; rintro r6 w6 ⟨rfl, hb6⟩; have HB := hide hb6; clear hb6))
 all_goals exact ⟨rfl, ⟨by rw [unhide HTL]; rfl, fun k hk => by rw [unhide HTL]; rcases (show k = 0 ∨ k = 1 by omega) with rfl | rfl <;> rfl⟩, (by first | rfl | simp), (by first | rfl | simp), unhide HB⟩
theorem mb_r3 {ok : Bool} (hT : T.size = 104) (s3 : T[3]? = some (.bool ok))
  (hQ : ∀ T', (Fq.Kp 7 T T' ∧ T'[34]? = some (.bool (!ok))) → Q .normal ⟨T', []⟩ (w)) : (Fq.reg Try.f75 3).wp Try.prog Q ⟨T, []⟩ w := by
 have a3 := fun h => Fq.el s3 h
 have d3 := Fq.gd s3
 have hu : undef = Value.tuple #[] := rfl
 have HQ := hide hQ
 clear hQ
 conv => arg 2; whnf
 go_wp2_with fail
 exact (unhide HQ) _ ⟨(by (repeat (with_reducible refine Fq.Kp.set ?_ (by decide) _)); with_reducible exact Fq.Kp.refl _ _), Fq.set_at _ (by simp [hT]) _⟩
theorem mb_r4 {k vl vc tn tc : Nat} {num fn at_ : Int} {va ta : Option Addr} (hT : T.size = 104) (s0 : T[0]? = some (.pointer (some ⟨bm, 0, none⟩))) (h6 : w.cell? ⟨bm, 6, none⟩ = some (.slice (some ⟨g, 0, none⟩) (k + 2) c)) (hk : k ≤ 1000) (y0 : w.cell? ⟨g, k * 5, none⟩ = some (.int .i64 num)) (y1 : w.cell? ⟨g, k * 5 + 1, none⟩ = some (.int .i64 fn)) (y2 : w.cell? ⟨g, k * 5 + 2, none⟩ = some (.int .i64 at_)) (y3 : w.cell? ⟨g, k * 5 + 3, none⟩ = some (.slice va vl vc)) (y4 : w.cell? ⟨g, k * 5 + 4, none⟩ = some (.slice ta tn tc))
  (hQ : ∀ T', (Fq.Kp 4 T T' ∧ T'[4]? = some (.pointer (some ⟨w.heap.size, 0, none⟩))) → Q .normal ⟨T', []⟩ ((w.alloc (Obj.cells #[.int .i64 num, .int .i64 fn, .int .i64 at_, .slice va vl vc, .slice ta tn tc] 85)).drew)) : (Fq.reg Try.f75 4).wp Try.prog Q ⟨T, []⟩ w := by
 have HQ := hide hQ
 clear hQ
 conv => arg 2; whnf
 refine Fq.norm (fun T' w' => Fq.Kp 4 T T' ∧ T'[4]? = some (.pointer (some ⟨w.heap.size, 0, none⟩)) ∧ w' = ((w.alloc (Obj.cells #[.int .i64 num, .int .i64 fn, .int .i64 at_, .slice va vl vc, .slice ta tn tc] 85)).drew)) (fun T' w' h => by obtain ⟨h0, h1, rfl⟩ := h; exact (unhide HQ) T' ⟨h0, h1⟩) ?_
 obtain ⟨t, ht⟩ : ∃ t : Nat → Value, t = fun i => T.getD i (.tuple #[]) := ⟨_, rfl⟩
 have hTl : T = #[t 0, t 1, t 2, t 3, t 4, t 5, t 6, t 7, t 8, t 9, t 10, t 11, t 12, t 13, t 14, t 15, t 16, t 17, t 18, t 19, t 20, t 21, t 22, t 23, t 24, t 25, t 26, t 27, t 28, t 29, t 30, t 31, t 32, t 33, t 34, t 35, t 36, t 37, t 38, t 39, t 40, t 41, t 42, t 43, t 44, t 45, t 46, t 47, t 48, t 49, t 50, t 51, t 52, t 53, t 54, t 55, t 56, t 57, t 58, t 59, t 60, t 61, t 62, t 63, t 64, t 65, t 66, t 67, t 68, t 69, t 70, t 71, t 72, t 73, t 74, t 75, t 76, t 77, t 78, t 79, t 80, t 81, t 82, t 83, t 84, t 85, t 86, t 87, t 88, t 89, t 90, t 91, t 92, t 93, t 94, t 95, t 96, t 97, t 98, t 99, t 100, t 101, t 102, t 103] := by rw [ht]; exact Fq.ls_is hT
 rw [(congrFun ht 0).trans (Fq.gd s0)] at hTl
 clear ht hT s0
 refine Fq.fr hTl ?_
 have HTL := hide hTl
 clear hTl
 have hw0 : IntKind.i64.wrap (((k + 2 : Nat) : Int) - 2) = (k : Int) := by rw [IntKind.wrap_i64]; omega
 have hw1 : IntKind.i64.wrap ((k : Int) + 2 - 2) = (k : Int) := by rw [IntKind.wrap_i64]; omega
 have hw2 : IntKind.i64.wrap (k : Int) = (k : Int) := by rw [IntKind.wrap_i64]; omega
 have k0 : (0 : Int) ≤ (k : Int) := by omega
 have k1 : (k : Int) < (k : Int) + 2 := by omega
 have hal := (Below.refl w.heap.size w).alloc (Nat.le_refl _) (Obj.cells #[.int .i64 0, .int .i64 0, .int .i64 0, .slice none 0 0, .slice none 0 0] 85)
 have a_h6 : (w.alloc (Obj.cells #[.int .i64 0, .int .i64 0, .int .i64 0, .slice none 0 0, .slice none 0 0] 85)).cell? ⟨bm, 6, none⟩ = some (.slice (some ⟨g, 0, none⟩) (k + 2) c) := (hal.cell (p := ⟨bm, 6, none⟩) (World.block_lt_of_cell? w _ h6)).trans h6
 have a_y0 : (w.alloc (Obj.cells #[.int .i64 0, .int .i64 0, .int .i64 0, .slice none 0 0, .slice none 0 0] 85)).cell? ⟨g, k * 5, none⟩ = some (.int .i64 num) := (hal.cell (p := ⟨g, k * 5, none⟩) (World.block_lt_of_cell? w _ y0)).trans y0
 have a_y1 : (w.alloc (Obj.cells #[.int .i64 0, .int .i64 0, .int .i64 0, .slice none 0 0, .slice none 0 0] 85)).cell? ⟨g, k * 5 + 1, none⟩ = some (.int .i64 fn) := (hal.cell (p := ⟨g, k * 5 + 1, none⟩) (World.block_lt_of_cell? w _ y1)).trans y1
 have a_y2 : (w.alloc (Obj.cells #[.int .i64 0, .int .i64 0, .int .i64 0, .slice none 0 0, .slice none 0 0] 85)).cell? ⟨g, k * 5 + 2, none⟩ = some (.int .i64 at_) := (hal.cell (p := ⟨g, k * 5 + 2, none⟩) (World.block_lt_of_cell? w _ y2)).trans y2
 have a_y3 : (w.alloc (Obj.cells #[.int .i64 0, .int .i64 0, .int .i64 0, .slice none 0 0, .slice none 0 0] 85)).cell? ⟨g, k * 5 + 3, none⟩ = some (.slice va vl vc) := (hal.cell (p := ⟨g, k * 5 + 3, none⟩) (World.block_lt_of_cell? w _ y3)).trans y3
 have a_y4 : (w.alloc (Obj.cells #[.int .i64 0, .int .i64 0, .int .i64 0, .slice none 0 0, .slice none 0 0] 85)).cell? ⟨g, k * 5 + 4, none⟩ = some (.slice ta tn tc) := (hal.cell (p := ⟨g, k * 5 + 4, none⟩) (World.block_lt_of_cell? w _ y4)).trans y4
 clear hal
 go_region_law (fail)
 all_goals exact ⟨rfl, ⟨by rw [unhide HTL]; rfl, fun k hk => by rw [unhide HTL]; rcases (show k = 0 ∨ k = 1 ∨ k = 2 ∨ k = 3 by omega) with rfl | rfl | rfl | rfl <;> rfl⟩, (by first | rfl | simp), rfl⟩
theorem mb_r5 {b4 : Nat} {at_ z : Int} (hT : T.size = 104) (s0 : T[0]? = some (.pointer (some ⟨bm, 0, none⟩))) (s2 : T[2]? = some (.int .i64 z)) (s4 : T[4]? = some (.pointer (some ⟨b4, 0, none⟩))) {R : World → Prop} (y2 : w.cell? ⟨b4, 2, none⟩ = some (.int .i64 at_)) (hc : Calls Try.prog 77 #[.pointer (some ⟨bm, 0, none⟩), .int .i64 6, .int .i64 at_, .int .i64 0, .int .i64 0, .int .i64 z] w fun r w' => r = .returned (.tuple #[]) ∧ R w')
  (hQ : ∀ T' w', (Fq.Kp 7 T T' ∧ R w') → Q .normal ⟨T', []⟩ w') : (Fq.reg Try.f75 5).wp Try.prog Q ⟨T, []⟩ w := by
 have a0 := fun h => Fq.el s0 h
 have d0 := Fq.gd s0
 have a2 := fun h => Fq.el s2 h
 have d2 := Fq.gd s2
 have a4 := fun h => Fq.el s4 h
 have d4 := Fq.gd s4
 have hu : undef = Value.tuple #[] := rfl
 have HQ := hide hQ
 clear hQ
 conv => arg 2; whnf
 have HC := hide hc
 clear hc
 go_wp2_with (with_reducible refine (Calls.mono (unhide HC) ?_); rintro r w2 ⟨rfl, hb2⟩; have HB := hide hb2; clear hb2)
 exact (unhide HQ) _ _ ⟨(by (repeat (with_reducible refine Fq.Kp.set ?_ (by decide) _)); with_reducible exact Fq.Kp.refl _ _), unhide HB⟩
end
end Go.Proofs.Ytcalcikclcmkaaa
