/-
  YBb, YBc, YBack, YPu. By the verifier.
-/
import Derived.Test.YtcalcikclcmkaaaJB
import Derived.Deep.RegionLaw
import Derived.Test.YtcalcikclcmkaaaJG
import Derived.Test.YtcalcikclcmkaaaYBa
set_option maxRecDepth 100000
set_option maxHeartbeats 3200000
namespace Go.Proofs.Ytcalcikclcmkaaa
open Go.RowKit
set_option linter.unusedVariables false
section
variable {T : Array Value} {w : World} {Q : Exit → Act → World → Prop} {bm g c : Nat}
theorem mb_r6 {k : Nat} (hT : T.size = 104) (s0 : T[0]? = some (.pointer (some ⟨bm, 0, none⟩))) (h6 : w.cell? ⟨bm, 6, none⟩ = some (.slice (some ⟨g, 0, none⟩) (k + 1) c)) (hf : w.frozen? ⟨bm, 6, none⟩ = false) (hk : k ≤ 1000) (hkc : k + 1 ≤ c) (hcc : c ≤ 9223372036854775807)
  (hQ : ∀ T', (Fq.Kp 7 T T') → Q .normal ⟨T', []⟩ ((w.setCell ⟨bm, 6, none⟩ (.slice (some ⟨g, 0, none⟩) k c)).drew)) : (Fq.reg Try.f75 6).wp Try.prog Q ⟨T, []⟩ w := by
 have HQ := hide hQ
 clear hQ
 conv => arg 2; whnf
 refine Fq.norm (fun T' w' => Fq.Kp 7 T T' ∧ w' = ((w.setCell ⟨bm, 6, none⟩ (.slice (some ⟨g, 0, none⟩) k c)).drew)) (fun T' w' h => by obtain ⟨h0, rfl⟩ := h; exact (unhide HQ) T' h0) ?_
 obtain ⟨t, ht⟩ : ∃ t : Nat → Value, t = fun i => T.getD i (.tuple #[]) := ⟨_, rfl⟩
 have hTl : T = #[t 0, t 1, t 2, t 3, t 4, t 5, t 6, t 7, t 8, t 9, t 10, t 11, t 12, t 13, t 14, t 15, t 16, t 17, t 18, t 19, t 20, t 21, t 22, t 23, t 24, t 25, t 26, t 27, t 28, t 29, t 30, t 31, t 32, t 33, t 34, t 35, t 36, t 37, t 38, t 39, t 40, t 41, t 42, t 43, t 44, t 45, t 46, t 47, t 48, t 49, t 50, t 51, t 52, t 53, t 54, t 55, t 56, t 57, t 58, t 59, t 60, t 61, t 62, t 63, t 64, t 65, t 66, t 67, t 68, t 69, t 70, t 71, t 72, t 73, t 74, t 75, t 76, t 77, t 78, t 79, t 80, t 81, t 82, t 83, t 84, t 85, t 86, t 87, t 88, t 89, t 90, t 91, t 92, t 93, t 94, t 95, t 96, t 97, t 98, t 99, t 100, t 101, t 102, t 103] := by rw [ht]; exact Fq.ls_is hT
 rw [(congrFun ht 0).trans (Fq.gd s0)] at hTl
 clear ht hT s0
 refine Fq.fr hTl ?_
 have HTL := hide hTl
 clear hTl
 have hw0 : IntKind.i64.wrap (((k + 1 : Nat) : Int) - 1) = (k : Int) := by rw [IntKind.wrap_i64]; omega
 have hw1 : IntKind.i64.wrap ((k : Int) + 1 - 1) = (k : Int) := by rw [IntKind.wrap_i64]; omega
 have hw2 : IntKind.i64.wrap (k : Int) = (k : Int) := by rw [IntKind.wrap_i64]; omega
 have k0 : (0 : Int) ≤ (k : Int) := by omega
 have k1 : (k : Int) < (k : Int) + 1 := by omega
 have k2 : (k : Int) ≤ (k : Int) + 1 := by omega
 have hc1 : (k : Int) ≤ (c : Int) := by omega
 go_region_law (fail)
 all_goals exact ⟨rfl, ⟨by rw [unhide HTL]; rfl, fun k hk => by rw [unhide HTL]; rcases (show k = 0 ∨ k = 1 ∨ k = 2 ∨ k = 3 ∨ k = 4 ∨ k = 5 ∨ k = 6 by omega) with rfl | rfl | rfl | rfl | rfl | rfl | rfl <;> rfl⟩, rfl⟩
theorem mb_r7 {k5 : Nat} (hT : T.size = 104) (s0 : T[0]? = some (.pointer (some ⟨bm, 0, none⟩))) (hc : Calls Try.prog 74 #[.pointer (some ⟨bm, 0, none⟩)] w fun r w' => r = .returned (.pointer (some ⟨g, k5, none⟩)) ∧ Below w.heap.size w w')
  (hQ : ∀ T' w', (Fq.Kp 5 T T' ∧ T'[5]? = some (.pointer (some ⟨g, k5, none⟩)) ∧ Below w.heap.size w w') → Q .normal ⟨T', []⟩ w') : (Fq.reg Try.f75 7).wp Try.prog Q ⟨T, []⟩ w := by
 have a0 := fun h => Fq.el s0 h
 have d0 := Fq.gd s0
 have hu : undef = Value.tuple #[] := rfl
 have HQ := hide hQ
 clear hQ
 conv => arg 2; whnf
 have HC := hide hc
 clear hc
 go_wp2_with (with_reducible refine (Calls.mono (unhide HC) ?_); rintro r w2 ⟨rfl, hb2⟩; have HB := hide hb2; clear hb2)
 exact (unhide HQ) _ _ ⟨(by (repeat (with_reducible refine Fq.Kp.set ?_ (by decide) _)); with_reducible exact Fq.Kp.refl _ _), Fq.set_at _ (by simp [hT]) _, unhide HB⟩
theorem mb_r9 {k k5 gt tc : Nat} (hT : T.size = 104) (s5 : T[5]? = some (.pointer (some ⟨g, k5, none⟩))) (h4 : w.cell? ⟨g, k5 + 4, none⟩ = some (.slice (some ⟨gt, 0, none⟩) (k + 1) tc)) (hf : w.frozen? ⟨g, k5 + 4, none⟩ = false) (hk : k ≤ 1000000) (hkc : k + 1 ≤ tc) (hcc : tc ≤ 9223372036854775807)
  (hQ : ∀ T', (Fq.Kp 7 T T') → Q .normal ⟨T', []⟩ ((w.setCell ⟨g, k5 + 4, none⟩ (.slice (some ⟨gt, 0, none⟩) k tc)).drew)) : (Fq.reg Try.f75 9).wp Try.prog Q ⟨T, []⟩ w := by
 have HQ := hide hQ
 clear hQ
 conv => arg 2; whnf
 refine Fq.norm (fun T' w' => Fq.Kp 7 T T' ∧ w' = ((w.setCell ⟨g, k5 + 4, none⟩ (.slice (some ⟨gt, 0, none⟩) k tc)).drew)) (fun T' w' h => by obtain ⟨h0, rfl⟩ := h; exact (unhide HQ) T' h0) ?_
 obtain ⟨t, ht⟩ : ∃ t : Nat → Value, t = fun i => T.getD i (.tuple #[]) := ⟨_, rfl⟩
 have hTl : T = #[t 0, t 1, t 2, t 3, t 4, t 5, t 6, t 7, t 8, t 9, t 10, t 11, t 12, t 13, t 14, t 15, t 16, t 17, t 18, t 19, t 20, t 21, t 22, t 23, t 24, t 25, t 26, t 27, t 28, t 29, t 30, t 31, t 32, t 33, t 34, t 35, t 36, t 37, t 38, t 39, t 40, t 41, t 42, t 43, t 44, t 45, t 46, t 47, t 48, t 49, t 50, t 51, t 52, t 53, t 54, t 55, t 56, t 57, t 58, t 59, t 60, t 61, t 62, t 63, t 64, t 65, t 66, t 67, t 68, t 69, t 70, t 71, t 72, t 73, t 74, t 75, t 76, t 77, t 78, t 79, t 80, t 81, t 82, t 83, t 84, t 85, t 86, t 87, t 88, t 89, t 90, t 91, t 92, t 93, t 94, t 95, t 96, t 97, t 98, t 99, t 100, t 101, t 102, t 103] := by rw [ht]; exact Fq.ls_is hT
 rw [(congrFun ht 5).trans (Fq.gd s5)] at hTl
 clear ht hT s5
 refine Fq.fr hTl ?_
 have HTL := hide hTl
 clear hTl
 have hw0 : IntKind.i64.wrap (((k + 1 : Nat) : Int) - 1) = (k : Int) := by rw [IntKind.wrap_i64]; omega
 have hw1 : IntKind.i64.wrap ((k : Int) + 1 - 1) = (k : Int) := by rw [IntKind.wrap_i64]; omega
 have hw2 : IntKind.i64.wrap (k : Int) = (k : Int) := by rw [IntKind.wrap_i64]; omega
 have k0 : (0 : Int) ≤ (k : Int) := by omega
 have k1 : (k : Int) < (k : Int) + 1 := by omega
 have k2 : (k : Int) ≤ (k : Int) + 1 := by omega
 have hc1 : (k : Int) ≤ (tc : Int) := by omega
 go_region_law (fail)
 all_goals exact ⟨rfl, ⟨by rw [unhide HTL]; rfl, fun k hk => by rw [unhide HTL]; rcases (show k = 0 ∨ k = 1 ∨ k = 2 ∨ k = 3 ∨ k = 4 ∨ k = 5 ∨ k = 6 by omega) with rfl | rfl | rfl | rfl | rfl | rfl | rfl <;> rfl⟩, rfl⟩
theorem mb_r10 {k5 b6 : Nat} {at_ cv z : Int} (hT : T.size = 104) (s0 : T[0]? = some (.pointer (some ⟨bm, 0, none⟩))) (s2 : T[2]? = some (.int .i64 z)) (s5 : T[5]? = some (.pointer (some ⟨g, k5, none⟩))) (s6 : T[6]? = some (.pointer (some ⟨b6, 0, none⟩))) {R : World → Prop} (h2 : w.cell? ⟨g, k5 + 2, none⟩ = some (.int .i64 at_)) (h1 : w.cell? ⟨b6, 1, none⟩ = some (.int .i64 cv)) (hc : Calls Try.prog 79 #[.pointer (some ⟨bm, 0, none⟩), .int .i64 at_, .int .i64 cv, .int .i64 0, .int .i64 z] w.drew fun r w' => r = .returned (.tuple #[]) ∧ R w')
  (hQ : ∀ T' w', (Fq.Kp 7 T T' ∧ R w') → Q .normal ⟨T', []⟩ w') : (Fq.reg Try.f75 10).wp Try.prog Q ⟨T, []⟩ w := by
 have HQ := hide hQ
 clear hQ
 conv => arg 2; whnf
 refine Fq.norm (fun T' w' => Fq.Kp 7 T T' ∧ R w') (fun T' w' h => (unhide HQ) T' w' h) ?_
 obtain ⟨t, ht⟩ : ∃ t : Nat → Value, t = fun i => T.getD i (.tuple #[]) := ⟨_, rfl⟩
 have hTl : T = #[t 0, t 1, t 2, t 3, t 4, t 5, t 6, t 7, t 8, t 9, t 10, t 11, t 12, t 13, t 14, t 15, t 16, t 17, t 18, t 19, t 20, t 21, t 22, t 23, t 24, t 25, t 26, t 27, t 28, t 29, t 30, t 31, t 32, t 33, t 34, t 35, t 36, t 37, t 38, t 39, t 40, t 41, t 42, t 43, t 44, t 45, t 46, t 47, t 48, t 49, t 50, t 51, t 52, t 53, t 54, t 55, t 56, t 57, t 58, t 59, t 60, t 61, t 62, t 63, t 64, t 65, t 66, t 67, t 68, t 69, t 70, t 71, t 72, t 73, t 74, t 75, t 76, t 77, t 78, t 79, t 80, t 81, t 82, t 83, t 84, t 85, t 86, t 87, t 88, t 89, t 90, t 91, t 92, t 93, t 94, t 95, t 96, t 97, t 98, t 99, t 100, t 101, t 102, t 103] := by rw [ht]; exact Fq.ls_is hT
 rw [(congrFun ht 0).trans (Fq.gd s0), (congrFun ht 2).trans (Fq.gd s2), (congrFun ht 5).trans (Fq.gd s5), (congrFun ht 6).trans (Fq.gd s6)] at hTl
 clear ht hT s0 s2 s5 s6
 refine Fq.fr hTl ?_
 have HTL := hide hTl
 clear hTl
 have HC := hide hc
 clear hc
 go_region_law (go_simp; go_at_call 79; refine (unhide HC).mono ?_; rintro r6 w6 ⟨rfl, hb6⟩; have HB := hide hb6; clear hb6)
 all_goals exact ⟨rfl, ⟨by rw [unhide HTL]; rfl, fun k hk => by rw [unhide HTL]; rcases (show k = 0 ∨ k = 1 ∨ k = 2 ∨ k = 3 ∨ k = 4 ∨ k = 5 ∨ k = 6 by omega) with rfl | rfl | rfl | rfl | rfl | rfl | rfl <;> rfl⟩, unhide HB⟩
end
end Go.Proofs.Ytcalcikclcmkaaa
namespace Go.Proofs.Ytcalcikclcmkaaa
open Go.RowKit
set_option linter.unusedVariables false
section
variable {T : Array Value} {w : World} {Q : Exit → Act → World → Prop} {bm g c : Nat}
theorem mb_r8 {k k5 gt tc il ic el ec na ac nt xc ne lc : Nat} {ck cv cf ik inn ek en ka : Int} {ia ea aa xa la : Option Addr} {b13 b14 : Bool} (hT : T.size = 104) (s5 : T[5]? = some (.pointer (some ⟨g, k5, none⟩))) (h4 : w.cell? ⟨g, k5 + 4, none⟩ = some (.slice (some ⟨gt, 0, none⟩) (k + 1) tc)) (hk : k ≤ 1000000) (y0 : w.cell? ⟨gt, k * 15, none⟩ = some (.int .i64 ck)) (y1 : w.cell? ⟨gt, k * 15 + 1, none⟩ = some (.int .i64 cv)) (y2 : w.cell? ⟨gt, k * 15 + 2, none⟩ = some (.int .i64 cf)) (y3 : w.cell? ⟨gt, k * 15 + 3, none⟩ = some (.int .i64 ik)) (y4 : w.cell? ⟨gt, k * 15 + 4, none⟩ = some (.int .i64 inn)) (y5 : w.cell? ⟨gt, k * 15 + 5, none⟩ = some (.slice ia il ic)) (y6 : w.cell? ⟨gt, k * 15 + 6, none⟩ = some (.int .i64 ek)) (y7 : w.cell? ⟨gt, k * 15 + 7, none⟩ = some (.int .i64 en)) (y8 : w.cell? ⟨gt, k * 15 + 8, none⟩ = some (.slice ea el ec)) (y9 : w.cell? ⟨gt, k * 15 + 9, none⟩ = some (.slice aa na ac)) (y10 : w.cell? ⟨gt, k * 15 + 10, none⟩ = some (.slice xa nt xc)) (y11 : w.cell? ⟨gt, k * 15 + 11, none⟩ = some (.slice la ne lc)) (y12 : w.cell? ⟨gt, k * 15 + 12, none⟩ = some (.int .i64 ka)) (y13 : w.cell? ⟨gt, k * 15 + 13, none⟩ = some (.bool b13)) (y14 : w.cell? ⟨gt, k * 15 + 14, none⟩ = some (.bool b14))
  (hQ : ∀ T', (Fq.Kp 6 T T' ∧ T'[6]? = some (.pointer (some ⟨w.heap.size, 0, none⟩))) → Q .normal ⟨T', []⟩ ((w.alloc (Obj.cells #[.int .i64 ck, .int .i64 cv, .int .i64 cf, .int .i64 ik, .int .i64 inn, .slice ia il ic, .int .i64 ek, .int .i64 en, .slice ea el ec, .slice aa na ac, .slice xa nt xc, .slice la ne lc, .int .i64 ka, .bool b13, .bool b14] 82)).drew)) : (Fq.reg Try.f75 8).wp Try.prog Q ⟨T, []⟩ w := by
 have HQ := hide hQ
 clear hQ
 conv => arg 2; whnf
 refine Fq.norm (fun T' w' => Fq.Kp 6 T T' ∧ T'[6]? = some (.pointer (some ⟨w.heap.size, 0, none⟩)) ∧ w' = ((w.alloc (Obj.cells #[.int .i64 ck, .int .i64 cv, .int .i64 cf, .int .i64 ik, .int .i64 inn, .slice ia il ic, .int .i64 ek, .int .i64 en, .slice ea el ec, .slice aa na ac, .slice xa nt xc, .slice la ne lc, .int .i64 ka, .bool b13, .bool b14] 82)).drew)) (fun T' w' h => by obtain ⟨h0, h1, rfl⟩ := h; exact (unhide HQ) T' ⟨h0, h1⟩) ?_
 obtain ⟨t, ht⟩ : ∃ t : Nat → Value, t = fun i => T.getD i (.tuple #[]) := ⟨_, rfl⟩
 have hTl : T = #[t 0, t 1, t 2, t 3, t 4, t 5, t 6, t 7, t 8, t 9, t 10, t 11, t 12, t 13, t 14, t 15, t 16, t 17, t 18, t 19, t 20, t 21, t 22, t 23, t 24, t 25, t 26, t 27, t 28, t 29, t 30, t 31, t 32, t 33, t 34, t 35, t 36, t 37, t 38, t 39, t 40, t 41, t 42, t 43, t 44, t 45, t 46, t 47, t 48, t 49, t 50, t 51, t 52, t 53, t 54, t 55, t 56, t 57, t 58, t 59, t 60, t 61, t 62, t 63, t 64, t 65, t 66, t 67, t 68, t 69, t 70, t 71, t 72, t 73, t 74, t 75, t 76, t 77, t 78, t 79, t 80, t 81, t 82, t 83, t 84, t 85, t 86, t 87, t 88, t 89, t 90, t 91, t 92, t 93, t 94, t 95, t 96, t 97, t 98, t 99, t 100, t 101, t 102, t 103] := by rw [ht]; exact Fq.ls_is hT
 rw [(congrFun ht 5).trans (Fq.gd s5)] at hTl
 clear ht hT s5
 refine Fq.fr hTl ?_
 have HTL := hide hTl
 clear hTl
 have hw0 : IntKind.i64.wrap (((k + 1 : Nat) : Int) - 1) = (k : Int) := by rw [IntKind.wrap_i64]; omega
 have hw1 : IntKind.i64.wrap ((k : Int) + 1 - 1) = (k : Int) := by rw [IntKind.wrap_i64]; omega
 have hw2 : IntKind.i64.wrap (k : Int) = (k : Int) := by rw [IntKind.wrap_i64]; omega
 have k0 : (0 : Int) ≤ (k : Int) := by omega
 have k1 : (k : Int) < (k : Int) + 1 := by omega
 have k2 : (k : Int) ≤ (k : Int) + 1 := by omega
 have hal := (Below.refl w.heap.size w).alloc (Nat.le_refl _) (Obj.cells #[.int .i64 0, .int .i64 0, .int .i64 0, .int .i64 0, .int .i64 0, .slice none 0 0, .int .i64 0, .int .i64 0, .slice none 0 0, .slice none 0 0, .slice none 0 0, .slice none 0 0, .int .i64 0, .bool false, .bool false] 82)
 have a_h4 : (w.alloc (Obj.cells #[.int .i64 0, .int .i64 0, .int .i64 0, .int .i64 0, .int .i64 0, .slice none 0 0, .int .i64 0, .int .i64 0, .slice none 0 0, .slice none 0 0, .slice none 0 0, .slice none 0 0, .int .i64 0, .bool false, .bool false] 82)).cell? ⟨g, k5 + 4, none⟩ = some (.slice (some ⟨gt, 0, none⟩) (k + 1) tc) := (hal.cell (p := ⟨g, k5 + 4, none⟩) (World.block_lt_of_cell? w _ h4)).trans h4
 have a_y0 : (w.alloc (Obj.cells #[.int .i64 0, .int .i64 0, .int .i64 0, .int .i64 0, .int .i64 0, .slice none 0 0, .int .i64 0, .int .i64 0, .slice none 0 0, .slice none 0 0, .slice none 0 0, .slice none 0 0, .int .i64 0, .bool false, .bool false] 82)).cell? ⟨gt, k * 15, none⟩ = some (.int .i64 ck) := (hal.cell (p := ⟨gt, k * 15, none⟩) (World.block_lt_of_cell? w _ y0)).trans y0
 have a_y1 : (w.alloc (Obj.cells #[.int .i64 0, .int .i64 0, .int .i64 0, .int .i64 0, .int .i64 0, .slice none 0 0, .int .i64 0, .int .i64 0, .slice none 0 0, .slice none 0 0, .slice none 0 0, .slice none 0 0, .int .i64 0, .bool false, .bool false] 82)).cell? ⟨gt, k * 15 + 1, none⟩ = some (.int .i64 cv) := (hal.cell (p := ⟨gt, k * 15 + 1, none⟩) (World.block_lt_of_cell? w _ y1)).trans y1
 have a_y2 : (w.alloc (Obj.cells #[.int .i64 0, .int .i64 0, .int .i64 0, .int .i64 0, .int .i64 0, .slice none 0 0, .int .i64 0, .int .i64 0, .slice none 0 0, .slice none 0 0, .slice none 0 0, .slice none 0 0, .int .i64 0, .bool false, .bool false] 82)).cell? ⟨gt, k * 15 + 2, none⟩ = some (.int .i64 cf) := (hal.cell (p := ⟨gt, k * 15 + 2, none⟩) (World.block_lt_of_cell? w _ y2)).trans y2
 have a_y3 : (w.alloc (Obj.cells #[.int .i64 0, .int .i64 0, .int .i64 0, .int .i64 0, .int .i64 0, .slice none 0 0, .int .i64 0, .int .i64 0, .slice none 0 0, .slice none 0 0, .slice none 0 0, .slice none 0 0, .int .i64 0, .bool false, .bool false] 82)).cell? ⟨gt, k * 15 + 3, none⟩ = some (.int .i64 ik) := (hal.cell (p := ⟨gt, k * 15 + 3, none⟩) (World.block_lt_of_cell? w _ y3)).trans y3
 have a_y4 : (w.alloc (Obj.cells #[.int .i64 0, .int .i64 0, .int .i64 0, .int .i64 0, .int .i64 0, .slice none 0 0, .int .i64 0, .int .i64 0, .slice none 0 0, .slice none 0 0, .slice none 0 0, .slice none 0 0, .int .i64 0, .bool false, .bool false] 82)).cell? ⟨gt, k * 15 + 4, none⟩ = some (.int .i64 inn) := (hal.cell (p := ⟨gt, k * 15 + 4, none⟩) (World.block_lt_of_cell? w _ y4)).trans y4
 have a_y5 : (w.alloc (Obj.cells #[.int .i64 0, .int .i64 0, .int .i64 0, .int .i64 0, .int .i64 0, .slice none 0 0, .int .i64 0, .int .i64 0, .slice none 0 0, .slice none 0 0, .slice none 0 0, .slice none 0 0, .int .i64 0, .bool false, .bool false] 82)).cell? ⟨gt, k * 15 + 5, none⟩ = some (.slice ia il ic) := (hal.cell (p := ⟨gt, k * 15 + 5, none⟩) (World.block_lt_of_cell? w _ y5)).trans y5
 have a_y6 : (w.alloc (Obj.cells #[.int .i64 0, .int .i64 0, .int .i64 0, .int .i64 0, .int .i64 0, .slice none 0 0, .int .i64 0, .int .i64 0, .slice none 0 0, .slice none 0 0, .slice none 0 0, .slice none 0 0, .int .i64 0, .bool false, .bool false] 82)).cell? ⟨gt, k * 15 + 6, none⟩ = some (.int .i64 ek) := (hal.cell (p := ⟨gt, k * 15 + 6, none⟩) (World.block_lt_of_cell? w _ y6)).trans y6
 have a_y7 : (w.alloc (Obj.cells #[.int .i64 0, .int .i64 0, .int .i64 0, .int .i64 0, .int .i64 0, .slice none 0 0, .int .i64 0, .int .i64 0, .slice none 0 0, .slice none 0 0, .slice none 0 0, .slice none 0 0, .int .i64 0, .bool false, .bool false] 82)).cell? ⟨gt, k * 15 + 7, none⟩ = some (.int .i64 en) := (hal.cell (p := ⟨gt, k * 15 + 7, none⟩) (World.block_lt_of_cell? w _ y7)).trans y7
 have a_y8 : (w.alloc (Obj.cells #[.int .i64 0, .int .i64 0, .int .i64 0, .int .i64 0, .int .i64 0, .slice none 0 0, .int .i64 0, .int .i64 0, .slice none 0 0, .slice none 0 0, .slice none 0 0, .slice none 0 0, .int .i64 0, .bool false, .bool false] 82)).cell? ⟨gt, k * 15 + 8, none⟩ = some (.slice ea el ec) := (hal.cell (p := ⟨gt, k * 15 + 8, none⟩) (World.block_lt_of_cell? w _ y8)).trans y8
 have a_y9 : (w.alloc (Obj.cells #[.int .i64 0, .int .i64 0, .int .i64 0, .int .i64 0, .int .i64 0, .slice none 0 0, .int .i64 0, .int .i64 0, .slice none 0 0, .slice none 0 0, .slice none 0 0, .slice none 0 0, .int .i64 0, .bool false, .bool false] 82)).cell? ⟨gt, k * 15 + 9, none⟩ = some (.slice aa na ac) := (hal.cell (p := ⟨gt, k * 15 + 9, none⟩) (World.block_lt_of_cell? w _ y9)).trans y9
 have a_y10 : (w.alloc (Obj.cells #[.int .i64 0, .int .i64 0, .int .i64 0, .int .i64 0, .int .i64 0, .slice none 0 0, .int .i64 0, .int .i64 0, .slice none 0 0, .slice none 0 0, .slice none 0 0, .slice none 0 0, .int .i64 0, .bool false, .bool false] 82)).cell? ⟨gt, k * 15 + 10, none⟩ = some (.slice xa nt xc) := (hal.cell (p := ⟨gt, k * 15 + 10, none⟩) (World.block_lt_of_cell? w _ y10)).trans y10
 have a_y11 : (w.alloc (Obj.cells #[.int .i64 0, .int .i64 0, .int .i64 0, .int .i64 0, .int .i64 0, .slice none 0 0, .int .i64 0, .int .i64 0, .slice none 0 0, .slice none 0 0, .slice none 0 0, .slice none 0 0, .int .i64 0, .bool false, .bool false] 82)).cell? ⟨gt, k * 15 + 11, none⟩ = some (.slice la ne lc) := (hal.cell (p := ⟨gt, k * 15 + 11, none⟩) (World.block_lt_of_cell? w _ y11)).trans y11
 have a_y12 : (w.alloc (Obj.cells #[.int .i64 0, .int .i64 0, .int .i64 0, .int .i64 0, .int .i64 0, .slice none 0 0, .int .i64 0, .int .i64 0, .slice none 0 0, .slice none 0 0, .slice none 0 0, .slice none 0 0, .int .i64 0, .bool false, .bool false] 82)).cell? ⟨gt, k * 15 + 12, none⟩ = some (.int .i64 ka) := (hal.cell (p := ⟨gt, k * 15 + 12, none⟩) (World.block_lt_of_cell? w _ y12)).trans y12
 have a_y13 : (w.alloc (Obj.cells #[.int .i64 0, .int .i64 0, .int .i64 0, .int .i64 0, .int .i64 0, .slice none 0 0, .int .i64 0, .int .i64 0, .slice none 0 0, .slice none 0 0, .slice none 0 0, .slice none 0 0, .int .i64 0, .bool false, .bool false] 82)).cell? ⟨gt, k * 15 + 13, none⟩ = some (.bool b13) := (hal.cell (p := ⟨gt, k * 15 + 13, none⟩) (World.block_lt_of_cell? w _ y13)).trans y13
 have a_y14 : (w.alloc (Obj.cells #[.int .i64 0, .int .i64 0, .int .i64 0, .int .i64 0, .int .i64 0, .slice none 0 0, .int .i64 0, .int .i64 0, .slice none 0 0, .slice none 0 0, .slice none 0 0, .slice none 0 0, .int .i64 0, .bool false, .bool false] 82)).cell? ⟨gt, k * 15 + 14, none⟩ = some (.bool b14) := (hal.cell (p := ⟨gt, k * 15 + 14, none⟩) (World.block_lt_of_cell? w _ y14)).trans y14
 clear hal
 go_region_law (fail)
 all_goals exact ⟨rfl, ⟨by rw [unhide HTL]; rfl, fun k hk => by rw [unhide HTL]; rcases (show k = 0 ∨ k = 1 ∨ k = 2 ∨ k = 3 ∨ k = 4 ∨ k = 5 by omega) with rfl | rfl | rfl | rfl | rfl | rfl <;> rfl⟩, (by first | rfl | simp), rfl⟩
end
end Go.Proofs.Ytcalcikclcmkaaa
namespace Go.Proofs.Ytcalcikclcmkaaa
open Go.RowKit
set_option linter.unusedVariables false
theorem Mc.ow_pop {W : World} {B g n c : Nat} {e : TypeId} {size : Nat} {xs ys : List Value} (h : W.ownsRow B e size (.slice (some ⟨g, 0, none⟩) (n + 1) c) (n + 1) (xs ++ ys)) (hx : xs.length = n * size) : W.ownsRow B e size (.slice (some ⟨g, 0, none⟩) n c) n xs := by
 rcases h.2 with ⟨h1, h2⟩ | ⟨g', cap, cur, hv, hg, hh, hc, hm, hz, ht⟩
 · omega
 · simp only [Value.slice.injEq, Option.some.injEq, Addr.mk.injEq, and_true, true_and] at hv
   obtain ⟨rfl, rfl⟩ := hv
   refine ⟨hx, .inr ⟨g, c, cur, rfl, hg, hh, by omega, hm, hz, ?_⟩⟩
   have h5 := congrArg (List.take (n * size)) ht
   rw [List.take_take, Nat.min_eq_left (Nat.mul_le_mul_right _ (by omega)), List.take_append_of_le_length (by omega)] at h5
   rw [h5, ← hx, List.take_length]
theorem Mc.ow_cap {W : World} {B g n c : Nat} {e : TypeId} {size : Nat} {xs : List Value} (h : W.ownsRow B e size (.slice (some ⟨g, 0, none⟩) n c) n xs) : n ≤ c ∧ c ≤ 9223372036854775807 := by
 rcases h.2 with ⟨h1, h2⟩ | ⟨g', cap, cur, hv, hg, hh, hc, hm, hz, ht⟩
 · cases h1
 · simp only [Value.slice.injEq, Option.some.injEq, Addr.mk.injEq, and_true, true_and] at hv
   obtain ⟨rfl, rfl⟩ := hv
   exact ⟨hc, by unfold maxLen at hm; omega⟩
def Mc.Post {m : Nat} (w0 : World) (hs : List (Nat × Obj)) (bm : Nat) (fs is : Pg.Sl) (inp : List Int) (fuel bnd : Nat) (t : Mc.St m) (W : World) : Prop :=
 if t.s.ended then ∃ ev, Mc.O w0 W bm t.s.evs ev else ∃ tg ms rf ev, Mc.J w0 W hs tg bm fs is inp fuel bnd t.s ms rf ev ∧ ms.map Prod.fst = t.fs
section
variable {m n : Nat} {w0 : World} {hs : List (Nat × Obj)} {tg : Nat → Nat} {bm : Nat} {fs is : Pg.Sl} {inp : List Int} {fuel bnd : Nat} {s : Xr.S} {rf ev : Value}
theorem Mc.Post.over {t : Mc.St m} {W : World} {evs : List Ev} {ev : Value} (h : Mc.O w0 W bm evs ev) (h1 : t.s.ended = true) (h2 : t.s.evs = evs) : Mc.Post w0 hs bm fs is inp fuel bnd t W := by
 unfold Mc.Post
 rw [if_pos h1, h2]
 exact ⟨ev, h⟩
theorem Mc.Post.on {t : Mc.St m} {W : World} {ms : List (Mc.X m)} (h1 : t.s.ended = false) (h : Mc.J w0 W hs tg bm fs is inp fuel bnd t.s ms rf ev) (h2 : ms.map Prod.fst = t.fs) : Mc.Post w0 hs bm fs is inp fuel bnd t W := by
 unfold Mc.Post
 rw [if_neg (by simp [h1])]
 exact ⟨tg, ms, rf, ev, h, h2⟩
theorem Mc.val_ok {k : Nat} {s : Xr.S} {f : Xr.F} {y : Pg.XT k} (he : s.ended = false) (h : (Pg.val f.vs k y).2 = 0) : Xr.valS s f y = s ∧ Xr.valV s f y = (Pg.val f.vs k y).1 := by
 unfold Xr.valS Xr.valV
 simp [he, h]
theorem Mc.val_no {k : Nat} {s : Xr.S} {f : Xr.F} {y : Pg.XT k} (he : s.ended = false) (h : (Pg.val f.vs k y).2 ≠ 0) : (Xr.valS s f y).ended = true ∧ (Xr.valS s f y).evs = s.evs ++ [⟨7, f.num, f.at_, 0, 0, (Pg.val f.vs k y).2⟩] := by
 unfold Xr.valS
 rw [if_neg (by simp [he]), if_neg h]
 unfold Xr.fin
 rw [Xr.tell_no he]
 exact ⟨rfl, rfl⟩
theorem Mc.fin_is {s : Xr.S} (he : s.ended = false) (f : Xr.F) (a how : Int) : (Xr.fin s f a how).ended = true ∧ (Xr.fin s f a how).evs = s.evs ++ [⟨7, f.num, a, 0, 0, how⟩] := by
 unfold Xr.fin
 rw [Xr.tell_no he]
 exact ⟨rfl, rfl⟩
theorem Mc.fn_at {p : List (Pg.FT m n)} {qa : Option Addr} {ql qc : Nat} (hp : Pg.RP w0 m n ⟨qa, ql, qc⟩ p) {q : Nat} {x : Pg.FT m n} (hx : p[q]? = some x) : ∃ (b o : Nat) (ff : Pg.F), qa = some ⟨b, o, none⟩ ∧ q < ql ∧ Pg.RF w0 m n ff x ∧ ∀ V, Below w0.heap.size w0 V → Pg.LF V b (o + q * 6) ff := by
 obtain ⟨b, o, ff, h1, h2, h3, h4⟩ := hp.at_ q x hx
 refine ⟨b, o, ff, h1, ?_, h4, fun V hV => h3.later hV (Nat.le_refl _) h2⟩
 have h5 : ql = p.length := hp.len
 have := (List.getElem?_eq_some_iff.1 hx).1
 omega
theorem Back_any {p : List (Pg.FT m n)} (hpp : Xr.PP w0 fs p) (W : World) (x : Mc.X m) (ms : List (Mc.X m)) (h : Mc.J w0 W hs tg bm fs is inp fuel bnd s (x :: ms) rf ev) (he : s.ended = false) (hok : Mc.Ok p ⟨s, x.1 :: ms.map Prod.fst⟩) (hl : s.evs.length ≤ 90000) :
  Calls Try.prog 75 #[.pointer (some ⟨bm, 0, none⟩)] W fun r W' => r = .returned (.tuple #[]) ∧ Mc.Post w0 hs bm fs is inp fuel bnd (Mc.back p s x.1 (ms.map Prod.fst)) W' := by
 obtain ⟨qa, ql, qc⟩ := fs
 have hrp : Pg.RP w0 m n ⟨qa, ql, qc⟩ p := hpp.rp
 have htop : ms.length ≤ 5 := by have := hok.top; simp at this; omega
 obtain ⟨px, hpx, hsh, _⟩ := (hok.all x.1 List.mem_cons_self).ex
 obtain ⟨b, o, ff, hqa, hql, hrf, hlf⟩ := Mc.fn_at hrp hpx
 subst hqa
 have hql2 : ql ≤ 1000 := by have h5 : ql = p.length := hrp.len; have := hpp.few; omega
 obtain ⟨g, c, rfl⟩ := h.rfForm
 refine calls_of_wp Try.func75 rfl ?_
 rw [show Try.f75.ntmps - (#[.pointer (some ⟨bm, 0, none⟩)] : Array Value).size = 103 by rw [Try.ntmps75]; rfl]
 obtain ⟨T0, hT0⟩ : ∃ T0, T0 = #[.pointer (some ⟨bm, 0, none⟩)] ++ Array.replicate 103 undef := ⟨_, rfl⟩
 have hT : T0.size = 104 := by rw [hT0, Array.size_append, Array.size_replicate]; rfl
 have s0 : T0[0]? = some (.pointer (some ⟨bm, 0, none⟩)) := by rw [hT0]; simp
 rw [← hT0]
 clear hT0
 refine wp_seq (wp_seq ?_)
 refine Fq.at_ Try.f75 0 (by kernel_rfl) ?_
 refine mb_r0 hT s0 h.box.c6 (by omega) rfl (fun U1 ⟨k1, h12⟩ => ?_)
 have z1 := k1.size.trans hT
 have u0 := (k1.at_ 0 (by omega)).trans s0
 refine Fq.ok ?_
 cases ms with
 | nil =>
  refine Fq.cond_true (h12.trans (by rfl)) ?_
  refine wp_seq ?_
  refine Fq.at_ Try.f75 1 (by kernel_rfl) ?_
  refine mb_r1 z1 u0 (End_any W h (by simp) (by omega) (-1) 0) (fun U2 w2 ⟨_, ev2, ho⟩ => ?_)
  refine Fq.ok (wp_ret ?_)
  repeat (first | with_reducible refine Fq.thR ?_ | with_reducible refine Fq.blR ?_)
  refine bodyPost_ret (results_none rfl _ _ _) rfl ⟨rfl, ?_⟩
  exact Mc.Post.over ho rfl (Mc.fin_is he x.1.fr (-1) 0).2
 | cons y r =>
  refine Fq.cond_false (h12.trans (by simp)) ?_
  refine Fq.skip (Fq.ok ?_)
  have hfn : x.1.fn + 1 < p.length := hok.fn x.1 (show x.1 ∈ x.1 :: (y.1 :: r.map Prod.fst).dropLast from List.mem_cons_self)
  have hchk : Pg.chkX px.sizes m px.res = 0 := by
   obtain ⟨_, hw2⟩ := Pg.orW_zero (show Pg.orW _ (Pg.orW _ _) = 0 from hpp.ok _ px hpx)
   have h3 := (Pg.orW_zero hw2).2
   unfold Pg.wres at h3
   rw [if_neg (by rw [decide_eq_false (by omega)]; decide)] at h3
   exact h3
  have hokv : Pg.okV x.1.fr.vs m px.res := hsh.okX hrf.res hchk
  obtain ⟨fpr, fsz, fcm, ⟨rk, rn, ⟨ra, rl, rc⟩⟩⟩ := ff
  have hback : Mc.back p s x.1 ((y :: r).map Prod.fst) = ⟨Xr.wrS (Xr.tell (Xr.valS s x.1.fr px.res) ⟨6, x.1.fr.num, y.1.fr.at_, 0, 0, Xr.valV s x.1.fr px.res⟩) y.1.fr y.1.fr.at_ (Mc.var y.1.ks) 0 (Xr.valV s x.1.fr px.res), ⟨Xr.wrF y.1.fr (Mc.var y.1.ks) 0 (Xr.valV s x.1.fr px.res), y.1.fn, y.1.ks.tail⟩ :: r.map Prod.fst⟩ := by
   show Mc.back p s x.1 (y.1 :: r.map Prod.fst) = _
   unfold Mc.back
   dsimp only
   rw [hpx]
  refine wp_seq ?_
  refine Fq.at_ Try.f75 2 (by kernel_rfl) ?_
  refine mb_r2 (R := fun w' => ((Pg.val x.1.fr.vs m px.res).2 = 0 → Below W.heap.size W w') ∧ ((Pg.val x.1.fr.vs m px.res).2 ≠ 0 → ∃ ev', Mc.O w0 w' bm (s.evs ++ [⟨7, x.1.fr.num, x.1.fr.at_, 0, 0, (Pg.val x.1.fr.vs m px.res).2⟩]) ev')) (z := (Pg.val x.1.fr.vs m px.res).1) (ok := decide ((Pg.val x.1.fr.vs m px.res).2 = 0)) (rk := rk) (rn := rn) (ra := ra) (rl := rl) (rc := rc) (k := (y :: r).length) (b := b) (o := o) (q := x.1.fn) (ql := ql) (qc := qc) (g := g) z1 u0 (fun V hV => Top_any bm g (y :: r).length c V (h.below hV).box.c6 (by omega)) (fun V hV => ?_) hql hql2 (fun V hV => (Value_any V (h.below hV) (by omega) (by omega) m ⟨rk, rn, ⟨ra, rl, rc⟩⟩ px.res hrf.res hokv).mono (fun r w' ⟨q1, q2, q3⟩ => ⟨q1, fun h0 => hV.trans ((q2 h0).mono hV.size), q3⟩)) (fun U2 w2 ⟨k2, h2, h3, hv1, hv2⟩ => ?_)
  · have hj := h.below hV
    have hq := hlf V hj.bel
    exact ⟨hj.box.c0, hj.top 1 _ rfl, hq.c3, hq.c4, hq.c5⟩
  have z2 := k2.size.trans z1
  have v0 := (k2.at_ 0 (by omega)).trans u0
  refine Fq.ok ?_
  refine wp_seq (wp_seq ?_)
  refine Fq.at_ Try.f75 3 (by kernel_rfl) ?_
  refine mb_r3 z2 h3 (fun U3 ⟨k3, h34⟩ => ?_)
  have z3 := k3.size.trans z2
  refine Fq.ok ?_
  by_cases hhow : (Pg.val x.1.fr.vs m px.res).2 = 0
  · obtain ⟨e1, e2⟩ := Mc.val_ok (s := s) he hhow
    rw [e1, e2] at hback
    rw [hback]
    generalize (Pg.val x.1.fr.vs m px.res).1 = z at *
    have hj2 := h.below (hv1 hhow)
    refine Fq.cond_false (h34.trans (by rw [decide_eq_true hhow]; rfl)) ?_
    refine Fq.skip (Fq.ok ?_)
    clear hv1 hv2 h12 h34 k1 h hhow e1 e2
    have w0' := (k3.at_ 0 (by omega)).trans v0
    have w2' := (k3.at_ 2 (by omega)).trans h2
    have hyv : Xr.Zf w2 w0.heap.size y.2.gv y.2.vb y.2.c y.1.fr.vs := hj2.frs.2.1.zf
    obtain ⟨ta, tn, tc, htv⟩ : ∃ a n c, y.2.tv = .slice a n c := by
     rcases hj2.frs.2.1.tr.2 with ⟨q1, _⟩ | ⟨gq, cap, cur, hv, _⟩
     · exact ⟨none, 0, 0, q1⟩
     · exact ⟨_, _, _, hv⟩
    refine wp_seq ?_
    refine Fq.at_ Try.f75 4 (by kernel_rfl) ?_
    refine mb_r4 (k := r.length) z3 w0' hj2.box.c6 (by simp at htop; omega) (hj2.top2 0 _ rfl) (hj2.top2 1 _ rfl) (hj2.top2 2 _ rfl) (hj2.top2 3 _ rfl) (by rw [← htv]; exact hj2.top2 4 _ rfl) (fun U4 ⟨k4, h4⟩ => ?_)
    have z4 := k4.size.trans z3
    have x0 := (k4.at_ 0 (by omega)).trans w0'
    have x2 := (k4.at_ 2 (by omega)).trans w2'
    have hj3 := (hj2.box1 (Obj.cells #[.int .i64 (y.1.fr.num : Nat), .int .i64 (y.1.fn : Nat), .int .i64 y.1.fr.at_, .slice (y.2.gv.map fun g => ⟨g, 0, none⟩) y.1.fr.vs.length y.2.c, .slice ta tn tc] 85)).below ((Below.refl _ _).drew)
    generalize hb4 : w2.heap.size = b4 at *
    generalize hw3 : (w2.alloc (Obj.cells #[.int .i64 (y.1.fr.num : Nat), .int .i64 (y.1.fn : Nat), .int .i64 y.1.fr.at_, .slice (y.2.gv.map fun g => ⟨g, 0, none⟩) y.1.fr.vs.length y.2.c, .slice ta tn tc] 85)).drew = w3 at *
    have c42 : w3.cell? ⟨b4, 2, none⟩ = some (.int .i64 y.1.fr.at_) := by
     rw [cell_of_row w3 b4 2 _ _ _ (hj3.kp _ List.mem_cons_self).1]
     rfl
    clear hb4 hw3
    refine Fq.ok ?_
    refine wp_seq ?_
    refine Fq.at_ Try.f75 5 (by kernel_rfl) ?_
    refine mb_r5 z4 x0 x2 h4 c42 (Tell_any w3 hj3 (by omega) (by omega) 6 y.1.fr.at_ 0 0 z) (fun U5 w4 ⟨k5, tg5, ev5, hj4⟩ => ?_)
    have z5 := k5.size.trans z4
    have y0 := (k5.at_ 0 (by omega)).trans x0
    have y2 := (k5.at_ 2 (by omega)).trans x2
    have hj5 := hj4.drop
    clear hj4 hj3 c42
    obtain ⟨hc1, hc2⟩ := Mc.ow_cap hj5.frr
    refine Fq.ok ?_
    refine wp_seq ?_
    refine Fq.at_ Try.f75 6 (by kernel_rfl) ?_
    refine mb_r6 (k := r.length + 1) z5 y0 hj5.box.c6 (hj5.box.fz 6) (by simp at htop; omega) hc1 hc2 (fun U6 k6 => ?_)
    have z6 := k6.size.trans z5
    have a0 := (k6.at_ 0 (by omega)).trans y0
    have a2 := (k6.at_ 2 (by omega)).trans y2
    have hj6 := (hj5.popF).below ((Below.refl _ _).drew)
    generalize (w4.setCell ⟨bm, 6, none⟩ (.slice (some ⟨g, 0, none⟩) (r.length + 1) c)).drew = w5 at *
    refine Fq.ok ?_
    refine wp_seq ?_
    refine Fq.at_ Try.f75 7 (by kernel_rfl) ?_
    refine mb_r7 z6 a0 (Top_any bm g r.length c w5 hj6.box.c6 (by simp at htop; omega)) (fun U7 w6 ⟨k7, h5, hb6⟩ => ?_)
    have z7 := k7.size.trans z6
    have b0 := (k7.at_ 0 (by omega)).trans a0
    have b2 := (k7.at_ 2 (by omega)).trans a2
    have hj7 := hj6.below hb6
    clear hj6 hj5 hb6
    obtain ⟨kk, kks, hyk, hcall⟩ := hok.wait y.1 (List.mem_cons_self)
    obtain ⟨⟨yfr, yfn, yks⟩, ⟨ygv, yvb, yc, ytv, ykc⟩⟩ := y
    dsimp only at *
    subst hyk htv
    cases kk with
    | none => exact absurd hcall id
    | some q =>
     obtain ⟨j, cm, a⟩ := q
     have hfr := hj7.frs.1
     have hrk := hfr.rk
     cases ykc with
     | nil => exact absurd hrk id
     | cons cc ycs =>
      obtain ⟨hrc, hrks⟩ : Pg.RC w0 m (j + 1) cc cm ∧ Mc.RKs w0 kks ycs := hrk
      have htr : w6.ownsRow w0.heap.size 82 15 (.slice ta tn tc) (kks.length + 1) (Mc.tsC kks ycs ++ Mc.tC (some ⟨j, cm, a⟩) cc) := hfr.tr
      obtain ⟨gt, rfl, rfl⟩ : ∃ gt, ta = some ⟨gt, 0, none⟩ ∧ tn = kks.length + 1 := by
       rcases htr.2 with ⟨q1, q2⟩ | ⟨gq, cap, cur, hv, _⟩
       · omega
       · cases hv
         exact ⟨gq, rfl, rfl⟩
      have hlen := hrks.len
      have htl : (Mc.tsC kks ycs).length = kks.length * 15 := Mc.tsC_len kks ycs hlen
      have hat : ∀ i v, (Mc.tC (some ⟨j, cm, a⟩ : Mc.K m) cc)[i]? = some v → w6.cell? ⟨gt, kks.length * 15 + i, none⟩ = some v := fun i v hv => by
       have hi15 : i < 15 := (List.getElem?_eq_some_iff.1 hv).1
       rw [htr.cellAt _ (by omega), List.getElem?_append_right (by omega), htl, Nat.add_sub_cancel_left]
       exact hv
      obtain ⟨yx, hyx, hysh, hytk⟩ := (hok.all _ (List.mem_cons_of_mem _ List.mem_cons_self)).ex
      have hyfew := (hok.all _ (List.mem_cons_of_mem _ List.mem_cons_self)).few
      have hkn : kks.length ≤ 200000 := by simp at hyfew; omega
      obtain ⟨⟨hwm, _, _⟩, _⟩ : (Pg.wcm p yfn yx cm = 0 ∧ _ ∧ _) ∧ _ := hytk (some ⟨j, cm, a⟩) List.mem_cons_self
      obtain ⟨_, hva, _, _, _, _⟩ := Xr.wc_ok (show Pg.wc cm.1.1 (Pg.at? yx.sizes cm.1.2.1) _ _ _ _ _ _ = 0 from hwm)
      obtain ⟨zz, hzz⟩ := hva (by have : cm.1.1 = 3 := hcall; omega)
      obtain ⟨vn, lv, hvn, hvl, hv0, _⟩ := hysh.var hzz
      have hccv : cc.v = cm.1.2.1 := hrc.1.2.1
      refine Fq.ok ?_
      refine wp_seq ?_
      refine Fq.at_ Try.f75 8 (by kernel_rfl) ?_
      refine mb_r8 (k := kks.length) (ka := (a : Nat)) (b13 := false) (b14 := false) z7 h5 (hj7.top 4 _ rfl) (by omega) (hat 0 _ rfl) (hat 1 _ rfl) (hat 2 _ rfl) (hat 3 _ rfl) (hat 4 _ rfl) (hat 5 _ rfl) (hat 6 _ rfl) (hat 7 _ rfl) (hat 8 _ rfl) (hat 9 _ rfl) (hat 10 _ rfl) (hat 11 _ rfl) (hat 12 _ rfl) (hat 13 _ rfl) (hat 14 _ rfl) (fun U8 ⟨k8, h6⟩ => ?_)
      have z8 := k8.size.trans z7
      have c0 := (k8.at_ 0 (by omega)).trans b0
      have c2 := (k8.at_ 2 (by omega)).trans b2
      have c5 := (k8.at_ 5 (by omega)).trans h5
      have hj8 := (hj7.box1 (Obj.cells #[.int .i64 cc.k, .int .i64 cc.v, .int .i64 cc.f, .int .i64 cc.ix.k, .int .i64 cc.ix.n, .slice cc.ix.args.ad cc.ix.args.len cc.ix.args.cap, .int .i64 cc.ex.k, .int .i64 cc.ex.n, .slice cc.ex.args.ad cc.ex.args.len cc.ex.args.cap, .slice cc.args.ad cc.args.len cc.args.cap, .slice cc.thn.ad cc.thn.len cc.thn.cap, .slice cc.els.ad cc.els.len cc.els.cap, .int .i64 (a : Nat), .bool false, .bool false] 82)).below ((Below.refl _ _).drew)
      have htr8 := Xr.ow_kept htr (W' := (w6.alloc (Obj.cells #[.int .i64 cc.k, .int .i64 cc.v, .int .i64 cc.f, .int .i64 cc.ix.k, .int .i64 cc.ix.n, .slice cc.ix.args.ad cc.ix.args.len cc.ix.args.cap, .int .i64 cc.ex.k, .int .i64 cc.ex.n, .slice cc.ex.args.ad cc.ex.args.len cc.ex.args.cap, .slice cc.args.ad cc.args.len cc.args.cap, .slice cc.thn.ad cc.thn.len cc.thn.cap, .slice cc.els.ad cc.els.len cc.els.cap, .int .i64 (a : Nat), .bool false, .bool false] 82)).drew) (fun q hq => (((Below.refl w6.heap.size w6).alloc (Nat.le_refl _) _).drew).block q (htr.lt q hq).2)
      generalize hb6 : w6.heap.size = b6 at *
      generalize hw7 : (w6.alloc (Obj.cells #[.int .i64 cc.k, .int .i64 cc.v, .int .i64 cc.f, .int .i64 cc.ix.k, .int .i64 cc.ix.n, .slice cc.ix.args.ad cc.ix.args.len cc.ix.args.cap, .int .i64 cc.ex.k, .int .i64 cc.ex.n, .slice cc.ex.args.ad cc.ex.args.len cc.ex.args.cap, .slice cc.args.ad cc.args.len cc.args.cap, .slice cc.thn.ad cc.thn.len cc.thn.cap, .slice cc.els.ad cc.els.len cc.els.cap, .int .i64 (a : Nat), .bool false, .bool false] 82)).drew = w7 at *
      clear hw7 hb6
      obtain ⟨hq1, hq2⟩ := Mc.ow_cap htr8
      refine Fq.ok ?_
      refine wp_seq ?_
      refine Fq.at_ Try.f75 9 (by kernel_rfl) ?_
      refine mb_r9 (k := kks.length) z8 c5 (hj8.top 4 _ rfl) (hj8.topFz _) (by omega) hq1 hq2 (fun U9 k9 => ?_)
      have z9 := k9.size.trans z8
      have d0 := (k9.at_ 0 (by omega)).trans c0
      have d2 := (k9.at_ 2 (by omega)).trans c2
      have d5 := (k9.at_ 5 (by omega)).trans c5
      have d6 := (k9.at_ 6 (by omega)).trans h6
      have hrf2 := hj8.trf g rfl
      have hgtt : tg g = tg g := rfl
      have htt8 := hj8.frs.1.tt
      have hpop := Mc.ow_pop htr8 htl
      have hgtg : gt ≠ g := fun e => by
       have t1 := htt8 gt rfl
       rw [e] at t1
       omega
      have hj9 := (hj8.setKs (W' := w7.setCell ⟨g, r.length * 5 + 4, none⟩ (.slice (some ⟨gt, 0, none⟩) kks.length tc)) (.slice (some ⟨gt, 0, none⟩) kks.length tc) kks ycs ((Mc.Ag.below (Below.refl _ _)).set g _ _ (fun _ => .inl hrf2)) rfl (Xr.ow_kept hpop (fun q hq => by cases hq; exact Xr.set_other hgtg)) (fun q hq => by cases hq; exact .inl ⟨(htr8.lt gt rfl).2, htt8 gt rfl⟩) hrks).below ((Below.refl _ _).drew)
      generalize (w7.setCell ⟨g, r.length * 5 + 4, none⟩ (.slice (some ⟨gt, 0, none⟩) kks.length tc)).drew = w8 at *
      have c61 : w8.cell? ⟨b6, 1, none⟩ = some (.int .i64 (vn : Nat)) := by
       rw [cell_of_row w8 b6 1 _ _ _ (hj9.kp _ List.mem_cons_self).1]
       show some (Value.int .i64 cc.v) = _
       rw [hccv, hvn]
      refine Fq.ok ?_
      refine Fq.at_ Try.f75 10 (by kernel_rfl) ?_
      refine mb_r10 (cv := (vn : Nat)) z9 d0 d2 d5 d6 (hj9.top 2 _ rfl) c61 (Write_any w8.drew (hj9.below ((Below.refl _ _).drew)) (by simp at htop; omega) (by show (s.evs ++ [_]).length ≤ 100000; rw [List.length_append]; show _ + 1 ≤ _; omega) yfr.at_ vn 0 lv hvl hv0 z) (fun U10 w9 ⟨_, tg9, ev9, hj10⟩ => ?_)
      refine bodyPost_end (results_none rfl _ _ _) rfl ⟨rfl, ?_⟩
      have hvar : Mc.var (some ⟨j, cm, a⟩ :: kks : List (Mc.K m)) = (vn : Int) := hvn
      have hts : ∀ e : Ev, Xr.tell s e = { s with evs := s.evs ++ [e] } := fun e => Xr.tell_no he e
      refine Mc.Post.on (tg := tg9) (ms := (⟨{ yfr with vs := Xr.upd yfr.vs vn 0 z }, yfn, kks⟩, ⟨ygv, yvb, yc, .slice (some ⟨gt, 0, none⟩) kks.length tc, ycs⟩) :: r) (rf := .slice (some ⟨g, 0, none⟩) (r.length + 1) c) (ev := ev9) ?_ ?_ ?_
      · show (Xr.wrS (Xr.tell s _) _ _ _ _ _).ended = false
        unfold Xr.wrS
        rw [hts, Xr.tell_no (by exact he)]
        exact he
      · have hfin := hj10.drop
        have hse : (Xr.wrS (Xr.tell s ⟨6, x.1.fr.num, yfr.at_, 0, 0, z⟩) yfr yfr.at_ (Mc.var (some ⟨j, cm, a⟩ :: kks : List (Mc.K m))) 0 z) = { s with evs := s.evs ++ [⟨6, x.1.fr.num, yfr.at_, 0, 0, z⟩] ++ [⟨2, yfr.num, yfr.at_, (vn : Nat), ((0 : Nat) : Int), z⟩] } := by
         unfold Xr.wrS
         rw [hts, Xr.tell_no (by exact he), hvar]
         rfl
        show Mc.J w0 w9 hs tg9 bm _ is inp fuel bnd (Xr.wrS (Xr.tell s ⟨6, x.1.fr.num, yfr.at_, 0, 0, z⟩) yfr yfr.at_ (Mc.var (some ⟨j, cm, a⟩ :: kks : List (Mc.K m))) 0 z) _ _ _
        rw [hse]
        exact hfin
      · show _ :: r.map Prod.fst = _
        unfold Xr.wrF
        rw [hvar]
        rfl
  · obtain ⟨e1, e2⟩ := Mc.val_no (s := s) he hhow
    obtain ⟨ev2, ho⟩ := hv2 hhow
    refine Fq.cond_true (h34.trans (by rw [decide_eq_false hhow]; rfl)) ?_
    refine wp_ret ?_
    repeat (first | with_reducible refine Fq.thR ?_ | with_reducible refine Fq.blR ?_)
    refine bodyPost_ret (results_none rfl _ _ _) rfl ⟨rfl, ?_⟩
    rw [hback]
    have h5 := (Xr.cl_same (Xr.valS s x.1.fr px.res).evs).wr _ y.1.fr y.1.fr.at_ (Mc.var y.1.ks) 0 (Xr.valV s x.1.fr px.res) ((Xr.cl_same (Xr.valS s x.1.fr px.res).evs).tell _ ⟨6, x.1.fr.num, y.1.fr.at_, 0, 0, Xr.valV s x.1.fr px.res⟩ (Or.inr (Or.inr rfl)) ⟨e1, rfl⟩)
    exact Mc.Post.over ho h5.1 (h5.2.trans e2)
end
end Go.Proofs.Ytcalcikclcmkaaa
namespace Go.Proofs.Ytcalcikclcmkaaa
open Go.RowKit
set_option linter.unusedVariables false
section
variable {m n : Nat} {w0 : World} {bm : Nat} {fs is : Pg.Sl} {inp : List Int} {fuel : Nat}
theorem Mc.Post.sub {hs hs' : List (Nat × Obj)} {bnd : Nat} {t : Mc.St m} {W : World} (h : Mc.Post w0 hs bm fs is inp fuel bnd t W) (hh : ∀ y ∈ hs', y ∈ hs) {bnd' : Nat} (hb : bnd ≤ bnd') : Mc.Post w0 hs' bm fs is inp fuel bnd' t W := by
 unfold Mc.Post at *
 split
 · rename_i he
   rw [if_pos he] at h
   exact h
 · rename_i he
   rw [if_neg he] at h
   obtain ⟨tg, ms, rf, ev, hj, h2⟩ := h
   exact ⟨tg, ms, rf, ev, (hj.sub hh).more hb, h2⟩
def Mc.CallOk (w0 : World) (bm : Nat) (fs is : Pg.Sl) (inp : List Int) (fuel : Nat) (p : List (Pg.FT m n)) : Prop :=
 ∀ (hs : List (Nat × Obj)) (tg : Nat → Nat) (bnd : Nat) (s : Xr.S) (x : Mc.X m) (ms : List (Mc.X m)) (rf ev : Value) (W : World) (j : Nat) (c : Pg.CT m (j + 1)) (a : Nat) (ks : List (Mc.K m)) (cc : Pg.C),
  Mc.J w0 W hs tg bm fs is inp fuel bnd s (x :: ms) rf ev → s.ended = false → s.evs.length ≤ 90000 → ms.length ≤ 5 → x.1.ks = some ⟨j, c, a⟩ :: ks → c.1.1 = 3 → Pg.RC w0 m (j + 1) cc c →
  (∃ px, p[x.1.fn]? = some px ∧ Xr.Sh x.1.fr.vs px.sizes ∧ Pg.wcm p x.1.fn px c = 0) → s.made ≤ 90000 →
  Calls Try.prog 78 #[.pointer (some ⟨bm, 0, none⟩), cc.val] W fun r W' => r = .returned (.tuple #[]) ∧ Mc.Post w0 hs bm fs is inp fuel bnd (Mc.call p (some ⟨j, c, a⟩) ks s x.1.fr x.1.fn (ms.map Prod.fst) c.1.2.2 c.2.1.2.2) W'
theorem Mc.pick {α : Type} {P : Nat → α → Prop} : ∀ n : Nat, (∀ i, i < n → ∃ c, P i c) → ∃ cs : List α, cs.length = n ∧ ∀ i, i < n → ∃ c, cs[i]? = some c ∧ P i c
 | 0, _ => ⟨[], rfl, fun i hi => absurd hi (by omega)⟩
 | n + 1, h => by
  obtain ⟨cs, h1, h2⟩ := Mc.pick n (fun i hi => h i (by omega))
  obtain ⟨c, hc⟩ := h n (by omega)
  refine ⟨cs ++ [c], by rw [List.length_append, h1]; rfl, fun i hi => ?_⟩
  by_cases hin : i < n
  · obtain ⟨d, d1, d2⟩ := h2 i hin
    exact ⟨d, by rw [List.getElem?_append_left (by omega)]; exact d1, d2⟩
  · have : i = n := by omega
    subst this
    exact ⟨c, by rw [List.getElem?_append_right (by omega), h1, Nat.sub_self]; rfl, hc⟩
theorem Mc.rks_of {w0 : World} : ∀ (ks : List (Mc.K m)) (cs : List Pg.C), ks.length = cs.length → (∀ (i : Nat) (k : Mc.K m) (c : Pg.C), ks[i]? = some k → cs[i]? = some c → Mc.RK w0 k c) → Mc.RKs w0 ks cs
 | [], [], _, _ => trivial
 | k :: ks, c :: cs, h, hk => ⟨hk 0 k c rfl rfl, Mc.rks_of ks cs (by simpa using h) (fun i k' c' h1 h2 => hk (i + 1) k' c' (by simpa using h1) (by simpa using h2))⟩
 | [], _ :: _, h, _ => by simp at h
 | _ :: _, [], h, _ => by simp at h
theorem Mc.rks_app {w0 : World} : ∀ (ks : List (Mc.K m)) (cs : List Pg.C) (ks' : List (Mc.K m)) (cs' : List Pg.C), Mc.RKs w0 ks cs → Mc.RKs w0 ks' cs' → Mc.RKs w0 (ks ++ ks') (cs ++ cs')
 | [], [], _, _, _, h => h
 | k :: ks, c :: cs, ks', cs', h, h' => ⟨h.1, Mc.rks_app ks cs ks' cs' h.2 h'⟩
 | [], _ :: _, _, _, h, _ => False.elim h
 | _ :: _, [], _, _, h, _ => False.elim h
theorem Mc.pushes_at (j : Nat) : ∀ (l : List (Pg.CT m (j + 1))) (a i : Nat) (c : Pg.CT m (j + 1)), l[i]? = some c → (Mc.pushes j l a)[i]? = some (some ⟨j, c, a + Pg.sumTo (Pg.cnt (j + 1)) l i⟩)
 | d :: r, a, 0, c, h => by
  have e : d = c := by simpa using h
  subst e
  rfl
 | d :: r, a, i + 1, c, h => by
  show (Mc.pushes j r (a + Pg.cnt (j + 1) d))[i]? = _
  rw [Mc.pushes_at j r (a + Pg.cnt (j + 1) d) i c (by simpa using h)]
  have : Pg.sumTo (Pg.cnt (j + 1)) (d :: r) (i + 1) = Pg.cnt (j + 1) d + Pg.sumTo (Pg.cnt (j + 1)) r i := by
   unfold Pg.sumTo
   rw [List.take_succ_cons, List.map_cons, List.sum_cons]
  rw [this, Nat.add_assoc]
 | [], a, i, c, h => by simp at h
theorem Mc.Pu.of {W : World} (hb : Below w0.heap.size w0 W) (j : Nat) (sl : Pg.Sl) (l : List (Pg.CT m j)) (a : Nat) (hr : Pg.RS w0 12 (Pg.LC w0) (Pg.RC w0 m j) sl l) (hc : a + Pg.cnts l ≤ 500) : ∃ (ccs : List Pg.C) (A : Nat → Nat), A 0 = a ∧ Mc.Pu W sl.ad sl.len (Mc.push j l a) ccs A ∧ Mc.RKs w0 (Mc.push j l a) ccs := by
 have hlen := hr.len
 cases j with
 | zero =>
  cases l with
  | cons y r => exact Empty.elim y
  | nil =>
   have hl0 : sl.len = 0 := hlen
   exact ⟨[], fun _ => a, rfl, ⟨hl0.symm, hl0.symm, by omega, fun i _ => by omega, fun i hi => absurd hi (by omega)⟩, trivial⟩
 | succ j =>
  have hcl := Mc.cnts_len l
  have hpl : (Mc.push (j + 1) l a).length = l.length := Mc.pushes_len j l a
  obtain ⟨ccs, h1, h2⟩ := Mc.pick (P := fun i cc => ∃ (b o : Nat) (y : Pg.CT m (j + 1)), l[i]? = some y ∧ sl.ad = some ⟨b, o, none⟩ ∧ b < w0.heap.size ∧ Pg.LC w0 b (o + i * 12) cc ∧ Pg.RC w0 m (j + 1) cc y) l.length (fun i hi => by
   obtain ⟨b, o, cc, q1, q2, q3, q4⟩ := hr.at_ i _ (List.getElem?_eq_getElem hi)
   exact ⟨cc, b, o, _, List.getElem?_eq_getElem hi, q1, q2, q3, q4⟩)
  refine ⟨ccs, fun i => a + Pg.sumTo (Pg.cnt (j + 1)) l i, by show a + Pg.sumTo _ l 0 = a; rfl, ⟨by rw [hpl, hlen], by rw [h1, hlen], by omega, fun i hi => ?_, fun i hi => ?_⟩, ?_⟩
  · have := Pg.sumTo_le (Pg.cnt (j + 1)) l i (by omega)
    show a + Pg.sumTo (Pg.cnt (j + 1)) l i ≤ 1000
    have h3 : (l.map (Pg.cnt (j + 1))).sum = Pg.cnts l := rfl
    omega
  · obtain ⟨cc, e1, b, o, y, e2, e3, e4, e5, e6⟩ := h2 i (by omega)
    have hmem := Pg.mem_le_sum (Pg.cnt (j + 1)) l y (List.mem_of_getElem? e2)
    have h3 : (l.map (Pg.cnt (j + 1))).sum = Pg.cnts l := rfl
    have h4 := Pg.cnt_succ y
    refine ⟨cc, some ⟨j, y, a + Pg.sumTo (Pg.cnt (j + 1)) l i⟩, Pg.cnts y.2.2.1, Pg.cnts y.2.2.2, b, o, e1, Mc.pushes_at j l a i y e2, rfl, rfl, ?_, e3, Nat.lt_of_lt_of_le e4 hb.size, e5.later hb (Nat.le_refl _) e4, fun V hV => ?_, fun V hV => ?_⟩
    · show a + Pg.sumTo (Pg.cnt (j + 1)) l (i + 1) = _
      rw [Pg.sumTo_succ (Pg.cnt (j + 1)) l i y e2]
      omega
    · exact Count_any j cc.thn y.2.2.1 V (e6.2.2.1.laterC (hb.trans (hV.mono hb.size)) (Nat.le_refl _)) (by omega)
    · exact Count_any j cc.els y.2.2.2 V (e6.2.2.2.laterC (hb.trans (hV.mono hb.size)) (Nat.le_refl _)) (by omega)
  · refine Mc.rks_of _ _ (by rw [hpl, h1]) (fun i k c hk hcc => ?_)
    have hi : i < l.length := by rw [← h1]; exact (List.getElem?_eq_some_iff.1 hcc).1
    obtain ⟨cc, e1, b, o, y, e2, e3, e4, e5, e6⟩ := h2 i hi
    rw [e1] at hcc
    cases hcc
    have hk2 : (Mc.pushes j l a)[i]? = some k := hk
    rw [Mc.pushes_at j l a i y e2] at hk2
    cases hk2
    exact e6
theorem Mc.J.pushed {W W' : World} {hs : List (Nat × Obj)} {tg : Nat → Nat} {bnd : Nat} {s : Xr.S} {x : Mc.X m} {r : List (Mc.X m)} {g c : Nat} {ev tv : Value} {ps : List (Mc.K m)} {ccs : List Pg.C} (h : Mc.J w0 W hs tg bm fs is inp fuel bnd s (x :: r) (.slice (some ⟨g, 0, none⟩) (r.length + 1) c) ev) (hg : Mc.Gr w0.heap.size W W' g (r.length * 5 + 4) x.2.tv tv (ps ++ x.1.ks) (ccs ++ x.2.kc)) (hrk : Mc.RKs w0 ps ccs) :
  Mc.J w0 W' hs (fun q => if tv.ownBlock = some q then 11 + 2 * r.length else tg q) bm fs is inp fuel bnd s ((⟨x.1.fr, x.1.fn, ps ++ x.1.ks⟩, ⟨x.2.gv, x.2.vb, x.2.c, tv, ccs ++ x.2.kc⟩) :: r) (.slice (some ⟨g, 0, none⟩) (r.length + 1) c) ev := by
 have hfr := h.frs.1
 have hg2 : tg g = 2 := h.trf g rfl
 refine h.setKs tv _ _ ⟨hg.os, hg.tape, hg.output, hg.size, fun q hq hc => hg.blk q hq (fun e => hc (.inl (by rw [e]; exact hg2))) (fun e => hc (.inr (hfr.tt q e)))⟩ hg.bfb hg.row (fun q hq => ?_) (Mc.rks_app _ _ _ _ hrk hfr.rk)
 rcases hg.at_ with e | e
 · rw [e] at hq
   exact .inl ⟨(hfr.tr.lt q hq).2, hfr.tt q hq⟩
 · exact .inr (e q hq)
theorem Mc.J.tvne {W : World} {hs : List (Nat × Obj)} {tg : Nat → Nat} {bnd : Nat} {s : Xr.S} {x : Mc.X m} {r : List (Mc.X m)} {g c : Nat} {ev : Value} (h : Mc.J w0 W hs tg bm fs is inp fuel bnd s (x :: r) (.slice (some ⟨g, 0, none⟩) (r.length + 1) c) ev) : x.2.tv.ownBlock ≠ some g := fun e => by
 have h1 := h.frs.1.tt g e
 have h2 := h.trf g rfl
 omega
end
end Go.Proofs.Ytcalcikclcmkaaa
