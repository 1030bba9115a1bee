/-
  Regions of the document's Machine.Do, each in a theorem of its own. By the verifier; written by mkyd.py.
-/
import Derived.Test.YtcalcikclcmkaaaJB
import Derived.Test.YtcalcikclcmkaaaJG
import Derived.Deep.RegionLaw
set_option maxRecDepth 100000
set_option maxHeartbeats 3200000
namespace Go.Proofs.Ytcalcikclcmkaaa
open Go.RowKit
set_option linter.unusedVariables false
section
variable {T : Array Value} {w : World} {Q : Exit → Act → World → Prop} {bm g c : Nat}
theorem md_r5 {st fu : Nat} {VB : Bool} (hT : T.size = 231) (s0 : T[0]? = some (.pointer (some ⟨bm, 0, none⟩))) (h4 : w.cell? ⟨bm, 4, none⟩ = some (.int .i64 (st : Nat))) (h3 : w.cell? ⟨bm, 3, none⟩ = some (.int .i64 (fu : Nat))) (hVB : VB = decide (st = fu))
  (hQ : ∀ T', (Fq.Kp 11 T T' ∧ T'[39]? = some (.bool VB)) → Q .normal ⟨T', []⟩ (w.drew)) : (Fq.reg Try.f41 5).wp Try.prog Q ⟨T, []⟩ w := by
 have HQ := hide hQ
 clear hQ
 conv => arg 2; whnf
 refine Fq.norm (fun T' w' => Fq.Kp 11 T T' ∧ T'[39]? = some (.bool VB) ∧ w' = (w.drew)) (fun T' w' h => by obtain ⟨h0, h1, rfl⟩ := h; exact (unhide HQ) T' ⟨h0, h1⟩) ?_
 obtain ⟨t, ht⟩ : ∃ t : Nat → Value, t = fun i => T.getD i (.tuple #[]) := ⟨_, rfl⟩
 have hTl : T = #[t 0, t 1, t 2, t 3, t 4, t 5, t 6, t 7, t 8, t 9, t 10, t 11, t 12, t 13, t 14, t 15, t 16, t 17, t 18, t 19, t 20, t 21, t 22, t 23, t 24, t 25, t 26, t 27, t 28, t 29, t 30, t 31, t 32, t 33, t 34, t 35, t 36, t 37, t 38, t 39, t 40, t 41, t 42, t 43, t 44, t 45, t 46, t 47, t 48, t 49, t 50, t 51, t 52, t 53, t 54, t 55, t 56, t 57, t 58, t 59, t 60, t 61, t 62, t 63, t 64, t 65, t 66, t 67, t 68, t 69, t 70, t 71, t 72, t 73, t 74, t 75, t 76, t 77, t 78, t 79, t 80, t 81, t 82, t 83, t 84, t 85, t 86, t 87, t 88, t 89, t 90, t 91, t 92, t 93, t 94, t 95, t 96, t 97, t 98, t 99, t 100, t 101, t 102, t 103, t 104, t 105, t 106, t 107, t 108, t 109, t 110, t 111, t 112, t 113, t 114, t 115, t 116, t 117, t 118, t 119, t 120, t 121, t 122, t 123, t 124, t 125, t 126, t 127, t 128, t 129, t 130, t 131, t 132, t 133, t 134, t 135, t 136, t 137, t 138, t 139, t 140, t 141, t 142, t 143, t 144, t 145, t 146, t 147, t 148, t 149, t 150, t 151, t 152, t 153, t 154, t 155, t 156, t 157, t 158, t 159, t 160, t 161, t 162, t 163, t 164, t 165, t 166, t 167, t 168, t 169, t 170, t 171, t 172, t 173, t 174, t 175, t 176, t 177, t 178, t 179, t 180, t 181, t 182, t 183, t 184, t 185, t 186, t 187, t 188, t 189, t 190, t 191, t 192, t 193, t 194, t 195, t 196, t 197, t 198, t 199, t 200, t 201, t 202, t 203, t 204, t 205, t 206, t 207, t 208, t 209, t 210, t 211, t 212, t 213, t 214, t 215, t 216, t 217, t 218, t 219, t 220, t 221, t 222, t 223, t 224, t 225, t 226, t 227, t 228, t 229, t 230] := by rw [ht]; exact Fq.ls_is hT
 rw [(congrFun ht 0).trans (Fq.gd s0)] at hTl
 clear ht hT s0
 refine Fq.fr hTl ?_
 have HTL := hide hTl
 clear hTl
 by_cases hR : st = fu
 · have HV3 := hide (show VB = true by rw [hVB, decide_eq_true hR])
   subst hR
   clear hVB
   go_region_law (fail)
   all_goals exact ⟨rfl, ⟨by rw [unhide HTL]; rfl, fun k hk => by rw [unhide HTL]; rcases (show k = 0 ∨ k = 1 ∨ k = 2 ∨ k = 3 ∨ k = 4 ∨ k = 5 ∨ k = 6 ∨ k = 7 ∨ k = 8 ∨ k = 9 ∨ k = 10 by omega) with rfl | rfl | rfl | rfl | rfl | rfl | rfl | rfl | rfl | rfl | rfl <;> rfl⟩, (by rw [unhide HV3] <;> rfl), rfl⟩
 · have HV3 := hide (show VB = false by rw [hVB, decide_eq_false hR])
   have b0 : (((st : Nat) : Int) == ((fu : Nat) : Int)) = false := by simp; omega
   clear hVB hR
   go_region_law (fail)
   all_goals exact ⟨rfl, ⟨by rw [unhide HTL]; rfl, fun k hk => by rw [unhide HTL]; rcases (show k = 0 ∨ k = 1 ∨ k = 2 ∨ k = 3 ∨ k = 4 ∨ k = 5 ∨ k = 6 ∨ k = 7 ∨ k = 8 ∨ k = 9 ∨ k = 10 by omega) with rfl | rfl | rfl | rfl | rfl | rfl | rfl | rfl | rfl | rfl | rfl <;> rfl⟩, (by rw [unhide HV3] <;> rfl), rfl⟩
theorem md_r12 {k k5 gt tc : Nat} (hT : T.size = 231) (s2 : T[2]? = some (.pointer (some ⟨g, k5, none⟩))) (h4 : w.cell? ⟨g, k5 + 4, none⟩ = some (.slice (some ⟨gt, 0, none⟩) (k + 1) tc)) (hf : w.frozen? ⟨g, k5 + 4, none⟩ = false) (hk : k ≤ 1000000) (hkc : k + 1 ≤ tc) (hcc : tc ≤ 9223372036854775807)
  (hQ : ∀ T', (Fq.Kp 11 T T') → Q .normal ⟨T', []⟩ ((w.setCell ⟨g, k5 + 4, none⟩ (.slice (some ⟨gt, 0, none⟩) k tc)).drew)) : (Fq.reg Try.f41 12).wp Try.prog Q ⟨T, []⟩ w := by
 have HQ := hide hQ
 clear hQ
 conv => arg 2; whnf
 refine Fq.norm (fun T' w' => Fq.Kp 11 T T' ∧ w' = ((w.setCell ⟨g, k5 + 4, none⟩ (.slice (some ⟨gt, 0, none⟩) k tc)).drew)) (fun T' w' h => by obtain ⟨h0, rfl⟩ := h; exact (unhide HQ) T' h0) ?_
 obtain ⟨t, ht⟩ : ∃ t : Nat → Value, t = fun i => T.getD i (.tuple #[]) := ⟨_, rfl⟩
 have hTl : T = #[t 0, t 1, t 2, t 3, t 4, t 5, t 6, t 7, t 8, t 9, t 10, t 11, t 12, t 13, t 14, t 15, t 16, t 17, t 18, t 19, t 20, t 21, t 22, t 23, t 24, t 25, t 26, t 27, t 28, t 29, t 30, t 31, t 32, t 33, t 34, t 35, t 36, t 37, t 38, t 39, t 40, t 41, t 42, t 43, t 44, t 45, t 46, t 47, t 48, t 49, t 50, t 51, t 52, t 53, t 54, t 55, t 56, t 57, t 58, t 59, t 60, t 61, t 62, t 63, t 64, t 65, t 66, t 67, t 68, t 69, t 70, t 71, t 72, t 73, t 74, t 75, t 76, t 77, t 78, t 79, t 80, t 81, t 82, t 83, t 84, t 85, t 86, t 87, t 88, t 89, t 90, t 91, t 92, t 93, t 94, t 95, t 96, t 97, t 98, t 99, t 100, t 101, t 102, t 103, t 104, t 105, t 106, t 107, t 108, t 109, t 110, t 111, t 112, t 113, t 114, t 115, t 116, t 117, t 118, t 119, t 120, t 121, t 122, t 123, t 124, t 125, t 126, t 127, t 128, t 129, t 130, t 131, t 132, t 133, t 134, t 135, t 136, t 137, t 138, t 139, t 140, t 141, t 142, t 143, t 144, t 145, t 146, t 147, t 148, t 149, t 150, t 151, t 152, t 153, t 154, t 155, t 156, t 157, t 158, t 159, t 160, t 161, t 162, t 163, t 164, t 165, t 166, t 167, t 168, t 169, t 170, t 171, t 172, t 173, t 174, t 175, t 176, t 177, t 178, t 179, t 180, t 181, t 182, t 183, t 184, t 185, t 186, t 187, t 188, t 189, t 190, t 191, t 192, t 193, t 194, t 195, t 196, t 197, t 198, t 199, t 200, t 201, t 202, t 203, t 204, t 205, t 206, t 207, t 208, t 209, t 210, t 211, t 212, t 213, t 214, t 215, t 216, t 217, t 218, t 219, t 220, t 221, t 222, t 223, t 224, t 225, t 226, t 227, t 228, t 229, t 230] := by rw [ht]; exact Fq.ls_is hT
 rw [(congrFun ht 2).trans (Fq.gd s2)] at hTl
 clear ht hT s2
 refine Fq.fr hTl ?_
 have HTL := hide hTl
 clear hTl
 have hw0 : IntKind.i64.wrap (((k + 1 : Nat) : Int) - 1) = (k : Int) := by rw [IntKind.wrap_i64]; omega
 have hw1 : IntKind.i64.wrap ((k : Int) + 1 - 1) = (k : Int) := by rw [IntKind.wrap_i64]; omega
 have hw2 : IntKind.i64.wrap (k : Int) = (k : Int) := by rw [IntKind.wrap_i64]; omega
 have k0 : (0 : Int) ≤ (k : Int) := by omega
 have k1 : (k : Int) < (k : Int) + 1 := by omega
 have k2 : (k : Int) ≤ (k : Int) + 1 := by omega
 have hc1 : (k : Int) ≤ (tc : Int) := by omega
 go_region_law (fail)
 all_goals exact ⟨rfl, ⟨by rw [unhide HTL]; rfl, fun k hk => by rw [unhide HTL]; rcases (show k = 0 ∨ k = 1 ∨ k = 2 ∨ k = 3 ∨ k = 4 ∨ k = 5 ∨ k = 6 ∨ k = 7 ∨ k = 8 ∨ k = 9 ∨ k = 10 by omega) with rfl | rfl | rfl | rfl | rfl | rfl | rfl | rfl | rfl | rfl | rfl <;> rfl⟩, rfl⟩
theorem md_r15 {k il ic : Nat} {ia : Option Addr} {VB : Bool} (hT : T.size = 231) (s0 : T[0]? = some (.pointer (some ⟨bm, 0, none⟩))) (h2 : w.cell? ⟨bm, 2, none⟩ = some (.int .i64 (k : Nat))) (h1 : w.cell? ⟨bm, 1, none⟩ = some (.slice ia il ic)) (hil : il ≤ 35184372088832) (hVB : VB = decide (k < il))
  (hQ : ∀ T', (Fq.Kp 11 T T' ∧ T'[92]? = some (.bool VB)) → Q .normal ⟨T', []⟩ (w.drew)) : (Fq.reg Try.f41 15).wp Try.prog Q ⟨T, []⟩ w := by
 have HQ := hide hQ
 clear hQ
 conv => arg 2; whnf
 refine Fq.norm (fun T' w' => Fq.Kp 11 T T' ∧ T'[92]? = some (.bool VB) ∧ w' = (w.drew)) (fun T' w' h => by obtain ⟨h0, h1, rfl⟩ := h; exact (unhide HQ) T' ⟨h0, h1⟩) ?_
 obtain ⟨t, ht⟩ : ∃ t : Nat → Value, t = fun i => T.getD i (.tuple #[]) := ⟨_, rfl⟩
 have hTl : T = #[t 0, t 1, t 2, t 3, t 4, t 5, t 6, t 7, t 8, t 9, t 10, t 11, t 12, t 13, t 14, t 15, t 16, t 17, t 18, t 19, t 20, t 21, t 22, t 23, t 24, t 25, t 26, t 27, t 28, t 29, t 30, t 31, t 32, t 33, t 34, t 35, t 36, t 37, t 38, t 39, t 40, t 41, t 42, t 43, t 44, t 45, t 46, t 47, t 48, t 49, t 50, t 51, t 52, t 53, t 54, t 55, t 56, t 57, t 58, t 59, t 60, t 61, t 62, t 63, t 64, t 65, t 66, t 67, t 68, t 69, t 70, t 71, t 72, t 73, t 74, t 75, t 76, t 77, t 78, t 79, t 80, t 81, t 82, t 83, t 84, t 85, t 86, t 87, t 88, t 89, t 90, t 91, t 92, t 93, t 94, t 95, t 96, t 97, t 98, t 99, t 100, t 101, t 102, t 103, t 104, t 105, t 106, t 107, t 108, t 109, t 110, t 111, t 112, t 113, t 114, t 115, t 116, t 117, t 118, t 119, t 120, t 121, t 122, t 123, t 124, t 125, t 126, t 127, t 128, t 129, t 130, t 131, t 132, t 133, t 134, t 135, t 136, t 137, t 138, t 139, t 140, t 141, t 142, t 143, t 144, t 145, t 146, t 147, t 148, t 149, t 150, t 151, t 152, t 153, t 154, t 155, t 156, t 157, t 158, t 159, t 160, t 161, t 162, t 163, t 164, t 165, t 166, t 167, t 168, t 169, t 170, t 171, t 172, t 173, t 174, t 175, t 176, t 177, t 178, t 179, t 180, t 181, t 182, t 183, t 184, t 185, t 186, t 187, t 188, t 189, t 190, t 191, t 192, t 193, t 194, t 195, t 196, t 197, t 198, t 199, t 200, t 201, t 202, t 203, t 204, t 205, t 206, t 207, t 208, t 209, t 210, t 211, t 212, t 213, t 214, t 215, t 216, t 217, t 218, t 219, t 220, t 221, t 222, t 223, t 224, t 225, t 226, t 227, t 228, t 229, t 230] := by rw [ht]; exact Fq.ls_is hT
 rw [(congrFun ht 0).trans (Fq.gd s0)] at hTl
 clear ht hT s0
 refine Fq.fr hTl ?_
 have HTL := hide hTl
 clear hTl
 by_cases hR : (k : Int) < (il : Int)
 · have HV3 := hide (show VB = true by rw [hVB, decide_eq_true (by omega)])
   clear hVB
   go_region_law (fail)
   all_goals exact ⟨rfl, ⟨by rw [unhide HTL]; rfl, fun k hk => by rw [unhide HTL]; rcases (show k = 0 ∨ k = 1 ∨ k = 2 ∨ k = 3 ∨ k = 4 ∨ k = 5 ∨ k = 6 ∨ k = 7 ∨ k = 8 ∨ k = 9 ∨ k = 10 by omega) with rfl | rfl | rfl | rfl | rfl | rfl | rfl | rfl | rfl | rfl | rfl <;> rfl⟩, (by rw [unhide HV3] <;> rfl), rfl⟩
 · have HV3 := hide (show VB = false by rw [hVB, decide_eq_false (by omega)])
   clear hVB
   go_region_law (fail)
   all_goals exact ⟨rfl, ⟨by rw [unhide HTL]; rfl, fun k hk => by rw [unhide HTL]; rcases (show k = 0 ∨ k = 1 ∨ k = 2 ∨ k = 3 ∨ k = 4 ∨ k = 5 ∨ k = 6 ∨ k = 7 ∨ k = 8 ∨ k = 9 ∨ k = 10 by omega) with rfl | rfl | rfl | rfl | rfl | rfl | rfl | rfl | rfl | rfl | rfl <;> rfl⟩, (by rw [unhide HV3] <;> rfl), rfl⟩
theorem md_r16 {k b o il ic : Nat} {z : Int} (hT : T.size = 231) (s0 : T[0]? = some (.pointer (some ⟨bm, 0, none⟩))) (h2 : w.cell? ⟨bm, 2, none⟩ = some (.int .i64 (k : Nat))) (h1 : w.cell? ⟨bm, 1, none⟩ = some (.slice (some ⟨b, o, none⟩) il ic)) (hk : k < il) (hil : il ≤ 35184372088832) (hz : w.cell? ⟨b, o + k, none⟩ = some (.int .i64 z))
  (hQ : ∀ T', (Fq.Kp 5 T T' ∧ T'[5]? = some (.int .i64 z)) → Q .normal ⟨T', []⟩ (w.drew)) : (Fq.reg Try.f41 16).wp Try.prog Q ⟨T, []⟩ w := by
 have HQ := hide hQ
 clear hQ
 conv => arg 2; whnf
 refine Fq.norm (fun T' w' => Fq.Kp 5 T T' ∧ T'[5]? = some (.int .i64 z) ∧ w' = (w.drew)) (fun T' w' h => by obtain ⟨h0, h1, rfl⟩ := h; exact (unhide HQ) T' ⟨h0, h1⟩) ?_
 obtain ⟨t, ht⟩ : ∃ t : Nat → Value, t = fun i => T.getD i (.tuple #[]) := ⟨_, rfl⟩
 have hTl : T = #[t 0, t 1, t 2, t 3, t 4, t 5, t 6, t 7, t 8, t 9, t 10, t 11, t 12, t 13, t 14, t 15, t 16, t 17, t 18, t 19, t 20, t 21, t 22, t 23, t 24, t 25, t 26, t 27, t 28, t 29, t 30, t 31, t 32, t 33, t 34, t 35, t 36, t 37, t 38, t 39, t 40, t 41, t 42, t 43, t 44, t 45, t 46, t 47, t 48, t 49, t 50, t 51, t 52, t 53, t 54, t 55, t 56, t 57, t 58, t 59, t 60, t 61, t 62, t 63, t 64, t 65, t 66, t 67, t 68, t 69, t 70, t 71, t 72, t 73, t 74, t 75, t 76, t 77, t 78, t 79, t 80, t 81, t 82, t 83, t 84, t 85, t 86, t 87, t 88, t 89, t 90, t 91, t 92, t 93, t 94, t 95, t 96, t 97, t 98, t 99, t 100, t 101, t 102, t 103, t 104, t 105, t 106, t 107, t 108, t 109, t 110, t 111, t 112, t 113, t 114, t 115, t 116, t 117, t 118, t 119, t 120, t 121, t 122, t 123, t 124, t 125, t 126, t 127, t 128, t 129, t 130, t 131, t 132, t 133, t 134, t 135, t 136, t 137, t 138, t 139, t 140, t 141, t 142, t 143, t 144, t 145, t 146, t 147, t 148, t 149, t 150, t 151, t 152, t 153, t 154, t 155, t 156, t 157, t 158, t 159, t 160, t 161, t 162, t 163, t 164, t 165, t 166, t 167, t 168, t 169, t 170, t 171, t 172, t 173, t 174, t 175, t 176, t 177, t 178, t 179, t 180, t 181, t 182, t 183, t 184, t 185, t 186, t 187, t 188, t 189, t 190, t 191, t 192, t 193, t 194, t 195, t 196, t 197, t 198, t 199, t 200, t 201, t 202, t 203, t 204, t 205, t 206, t 207, t 208, t 209, t 210, t 211, t 212, t 213, t 214, t 215, t 216, t 217, t 218, t 219, t 220, t 221, t 222, t 223, t 224, t 225, t 226, t 227, t 228, t 229, t 230] := by rw [ht]; exact Fq.ls_is hT
 rw [(congrFun ht 0).trans (Fq.gd s0)] at hTl
 clear ht hT s0
 refine Fq.fr hTl ?_
 have HTL := hide hTl
 clear hTl
 have k0 : (0 : Int) ≤ (k : Int) := by omega
 have k1 : (k : Int) < (il : Int) := by omega
 go_region_law (fail)
 all_goals exact ⟨rfl, ⟨by rw [unhide HTL]; rfl, fun k hk => by rw [unhide HTL]; rcases (show k = 0 ∨ k = 1 ∨ k = 2 ∨ k = 3 ∨ k = 4 by omega) with rfl | rfl | rfl | rfl | rfl <;> rfl⟩, (by first | rfl | simp), rfl⟩
theorem md_r31 {k5 b4 gv vl vc v zl zc : Nat} {ix : Int} {za : Option Addr} {VB : Bool} (hT : T.size = 231) (s2 : T[2]? = some (.pointer (some ⟨g, k5, none⟩))) (s4 : T[4]? = some (.pointer (some ⟨b4, 0, none⟩))) (s6 : T[6]? = some (.int .i64 ix)) (h3 : w.cell? ⟨g, k5 + 3, none⟩ = some (.slice (some ⟨gv, 0, none⟩) vl vc)) (x1 : w.cell? ⟨b4, 1, none⟩ = some (.int .i64 (v : Nat))) (hv : v < vl) (hvl : vl ≤ 1000) (hz : w.cell? ⟨gv, v, none⟩ = some (.slice za zl zc)) (hzl : zl ≤ 1000) (hVB : decide (0 ≤ ix ∧ ix ≤ (zl : Int) - 1) = VB)
  (hQ : ∀ T', (Fq.Kp 11 T T' ∧ T'[168]? = some (.bool VB)) → Q .normal ⟨T', []⟩ (w.drew)) : (Fq.reg Try.f41 31).wp Try.prog Q ⟨T, []⟩ w := by
 have HQ := hide hQ
 clear hQ
 conv => arg 2; whnf
 refine Fq.norm (fun T' w' => Fq.Kp 11 T T' ∧ T'[168]? = some (.bool VB) ∧ w' = (w.drew)) (fun T' w' h => by obtain ⟨h0, h1, rfl⟩ := h; exact (unhide HQ) T' ⟨h0, h1⟩) ?_
 obtain ⟨t, ht⟩ : ∃ t : Nat → Value, t = fun i => T.getD i (.tuple #[]) := ⟨_, rfl⟩
 have hTl : T = #[t 0, t 1, t 2, t 3, t 4, t 5, t 6, t 7, t 8, t 9, t 10, t 11, t 12, t 13, t 14, t 15, t 16, t 17, t 18, t 19, t 20, t 21, t 22, t 23, t 24, t 25, t 26, t 27, t 28, t 29, t 30, t 31, t 32, t 33, t 34, t 35, t 36, t 37, t 38, t 39, t 40, t 41, t 42, t 43, t 44, t 45, t 46, t 47, t 48, t 49, t 50, t 51, t 52, t 53, t 54, t 55, t 56, t 57, t 58, t 59, t 60, t 61, t 62, t 63, t 64, t 65, t 66, t 67, t 68, t 69, t 70, t 71, t 72, t 73, t 74, t 75, t 76, t 77, t 78, t 79, t 80, t 81, t 82, t 83, t 84, t 85, t 86, t 87, t 88, t 89, t 90, t 91, t 92, t 93, t 94, t 95, t 96, t 97, t 98, t 99, t 100, t 101, t 102, t 103, t 104, t 105, t 106, t 107, t 108, t 109, t 110, t 111, t 112, t 113, t 114, t 115, t 116, t 117, t 118, t 119, t 120, t 121, t 122, t 123, t 124, t 125, t 126, t 127, t 128, t 129, t 130, t 131, t 132, t 133, t 134, t 135, t 136, t 137, t 138, t 139, t 140, t 141, t 142, t 143, t 144, t 145, t 146, t 147, t 148, t 149, t 150, t 151, t 152, t 153, t 154, t 155, t 156, t 157, t 158, t 159, t 160, t 161, t 162, t 163, t 164, t 165, t 166, t 167, t 168, t 169, t 170, t 171, t 172, t 173, t 174, t 175, t 176, t 177, t 178, t 179, t 180, t 181, t 182, t 183, t 184, t 185, t 186, t 187, t 188, t 189, t 190, t 191, t 192, t 193, t 194, t 195, t 196, t 197, t 198, t 199, t 200, t 201, t 202, t 203, t 204, t 205, t 206, t 207, t 208, t 209, t 210, t 211, t 212, t 213, t 214, t 215, t 216, t 217, t 218, t 219, t 220, t 221, t 222, t 223, t 224, t 225, t 226, t 227, t 228, t 229, t 230] := by rw [ht]; exact Fq.ls_is hT
 rw [(congrFun ht 2).trans (Fq.gd s2), (congrFun ht 4).trans (Fq.gd s4), (congrFun ht 6).trans (Fq.gd s6)] at hTl
 clear ht hT s2 s4 s6
 refine Fq.fr hTl ?_
 have HTL := hide hTl
 clear hTl
 have H1 := hide (between_any ix 0 ((zl : Int) - 1) w.drew)
 rw [hVB] at H1
 have v0 : (0 : Int) ≤ (v : Int) := by omega
 have v1 : (v : Int) < (vl : Int) := by omega
 have hw0 : IntKind.i64.wrap ((zl : Int) - 1) = (zl : Int) - 1 := by rw [IntKind.wrap_i64]; omega
 clear hVB
 go_region_law (go_simp; go_at_call 31; refine (unhide H1).mono ?_; rintro r6 w6 ⟨rfl, hw6⟩; have hw7 := hw6.symm; clear hw6; subst hw7)
 all_goals exact ⟨rfl, ⟨by rw [unhide HTL]; rfl, fun k hk => by rw [unhide HTL]; rcases (show k = 0 ∨ k = 1 ∨ k = 2 ∨ k = 3 ∨ k = 4 ∨ k = 5 ∨ k = 6 ∨ k = 7 ∨ k = 8 ∨ k = 9 ∨ k = 10 by omega) with rfl | rfl | rfl | rfl | rfl | rfl | rfl | rfl | rfl | rfl | rfl <;> rfl⟩, (by first | rfl | simp), rfl⟩
end
end Go.Proofs.Ytcalcikclcmkaaa
