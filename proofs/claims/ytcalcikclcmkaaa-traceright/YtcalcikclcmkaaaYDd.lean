/-
  Regions of the document's Machine.Do, each in a theorem of its own. By the verifier; written by mkyd.py.
-/
import Derived.Test.YtcalcikclcmkaaaJB
import Derived.Test.YtcalcikclcmkaaaJG
import Derived.Deep.RegionLaw
set_option maxRecDepth 100000
set_option maxHeartbeats 3200000
namespace Go.Proofs.Ytcalcikclcmkaaa
open Go.RowKit
set_option linter.unusedVariables false
section
variable {T : Array Value} {w : World} {Q : Exit → Act → World → Prop} {bm g c : Nat}
theorem md_r39 {b3 b4 k5 a nt xc ne lc c1 : Nat} {xa la : Option Addr} (hT : T.size = 231) (s2 : T[2]? = some (.pointer (some ⟨g, k5, none⟩))) (s3 : T[3]? = some (.pointer (some ⟨b3, 0, none⟩))) (s4 : T[4]? = some (.pointer (some ⟨b4, 0, none⟩))) {R : World → Prop} (hF : ∀ V, Below w.heap.size w V → V.cell? ⟨b3, 12, none⟩ = some (.int .i64 (a : Nat)) ∧ V.cell? ⟨b4, 10, none⟩ = some (.slice xa nt xc) ∧ V.cell? ⟨b4, 11, none⟩ = some (.slice la ne lc)) (ha : a ≤ 1000) (hc1 : c1 ≤ 1000) (h1 : Calls Try.prog 73 #[.slice xa nt xc] w.drew fun r w' => r = .returned (.int .i64 (c1 : Nat)) ∧ Below w.drew.heap.size w.drew w') (h2 : ∀ V, Below w.heap.size w V → Calls Try.prog 39 #[.pointer (some ⟨g, k5, none⟩), .slice la ne lc, .int .i64 ((a : Int) + 1 + (c1 : Int))] V fun r w' => r = .returned (.tuple #[]) ∧ R w')
  (hQ : ∀ T' w', (Fq.Kp 11 T T' ∧ R w') → Q .normal ⟨T', []⟩ w') : (Fq.reg Try.f41 39).wp Try.prog Q ⟨T, []⟩ w := by
 have HQ := hide hQ
 clear hQ
 conv => arg 2; whnf
 refine Fq.norm (fun T' w' => Fq.Kp 11 T T' ∧ R w') (fun T' w' h => (unhide HQ) T' w' h) ?_
 obtain ⟨t, ht⟩ : ∃ t : Nat → Value, t = fun i => T.getD i (.tuple #[]) := ⟨_, rfl⟩
 have hTl : T = #[t 0, t 1, t 2, t 3, t 4, t 5, t 6, t 7, t 8, t 9, t 10, t 11, t 12, t 13, t 14, t 15, t 16, t 17, t 18, t 19, t 20, t 21, t 22, t 23, t 24, t 25, t 26, t 27, t 28, t 29, t 30, t 31, t 32, t 33, t 34, t 35, t 36, t 37, t 38, t 39, t 40, t 41, t 42, t 43, t 44, t 45, t 46, t 47, t 48, t 49, t 50, t 51, t 52, t 53, t 54, t 55, t 56, t 57, t 58, t 59, t 60, t 61, t 62, t 63, t 64, t 65, t 66, t 67, t 68, t 69, t 70, t 71, t 72, t 73, t 74, t 75, t 76, t 77, t 78, t 79, t 80, t 81, t 82, t 83, t 84, t 85, t 86, t 87, t 88, t 89, t 90, t 91, t 92, t 93, t 94, t 95, t 96, t 97, t 98, t 99, t 100, t 101, t 102, t 103, t 104, t 105, t 106, t 107, t 108, t 109, t 110, t 111, t 112, t 113, t 114, t 115, t 116, t 117, t 118, t 119, t 120, t 121, t 122, t 123, t 124, t 125, t 126, t 127, t 128, t 129, t 130, t 131, t 132, t 133, t 134, t 135, t 136, t 137, t 138, t 139, t 140, t 141, t 142, t 143, t 144, t 145, t 146, t 147, t 148, t 149, t 150, t 151, t 152, t 153, t 154, t 155, t 156, t 157, t 158, t 159, t 160, t 161, t 162, t 163, t 164, t 165, t 166, t 167, t 168, t 169, t 170, t 171, t 172, t 173, t 174, t 175, t 176, t 177, t 178, t 179, t 180, t 181, t 182, t 183, t 184, t 185, t 186, t 187, t 188, t 189, t 190, t 191, t 192, t 193, t 194, t 195, t 196, t 197, t 198, t 199, t 200, t 201, t 202, t 203, t 204, t 205, t 206, t 207, t 208, t 209, t 210, t 211, t 212, t 213, t 214, t 215, t 216, t 217, t 218, t 219, t 220, t 221, t 222, t 223, t 224, t 225, t 226, t 227, t 228, t 229, t 230] := by rw [ht]; exact Fq.ls_is hT
 rw [(congrFun ht 2).trans (Fq.gd s2), (congrFun ht 3).trans (Fq.gd s3), (congrFun ht 4).trans (Fq.gd s4)] at hTl
 clear ht hT s2 s3 s4
 refine Fq.fr hTl ?_
 have HTL := hide hTl
 clear hTl
 have HF := hide hF
 have H1 := hide h1
 have H2 := hide h2
 obtain ⟨y0, y1, y2⟩ := hF w (Below.refl _ _)
 have hw0 : IntKind.i64.wrap ((a : Int) + 1) = (a : Int) + 1 := by rw [IntKind.wrap_i64]; omega
 have hw1 : IntKind.i64.wrap ((a : Int) + 1 + (c1 : Int)) = (a : Int) + 1 + (c1 : Int) := by rw [IntKind.wrap_i64]; omega
 clear hF h1 h2
 go_region_law (first
  | (go_simp; go_at_call 73; refine (unhide H1).mono ?_; rintro r5 w5 ⟨rfl, hb5⟩; have HB5 := hide (show Below w.heap.size w w5 from ((Below.refl w.heap.size w).drew).trans (hb5.mono (Nat.le_refl _))); obtain ⟨z0, z1, z2⟩ := (unhide HF) _ (unhide HB5); clear hb5)
  | (go_simp; go_at_call 39; refine ((unhide H2) _ (unhide HB5)).mono ?_; rintro r6 w6 ⟨rfl, hb6⟩; have HB := hide hb6; clear hb6))
 all_goals exact ⟨rfl, ⟨by rw [unhide HTL]; rfl, fun k hk => by rw [unhide HTL]; rcases (show k = 0 ∨ k = 1 ∨ k = 2 ∨ k = 3 ∨ k = 4 ∨ k = 5 ∨ k = 6 ∨ k = 7 ∨ k = 8 ∨ k = 9 ∨ k = 10 by omega) with rfl | rfl | rfl | rfl | rfl | rfl | rfl | rfl | rfl | rfl | rfl <;> rfl⟩, unhide HB⟩
theorem md_r42 {b3 k5 n rc : Nat} {ra : Option Addr} {ka : Int} {b13 b14 : Bool} {il ic el ec na ac nt xc ne lc : Nat} {ck cv cf ik inn ek en : Int} {ia ea aa xa la : Option Addr} (hT : T.size = 231) (s2 : T[2]? = some (.pointer (some ⟨g, k5, none⟩))) (s3 : T[3]? = some (.pointer (some ⟨b3, 0, none⟩))) {B : Nat} {xs : List Value} (h4 : w.cell? ⟨g, k5 + 4, none⟩ = some (.slice ra n rc)) (hf : w.frozen? ⟨g, k5 + 4, none⟩ = false) (y0 : w.cell? ⟨b3, 0, none⟩ = some (.int .i64 ck)) (y1 : w.cell? ⟨b3, 1, none⟩ = some (.int .i64 cv)) (y2 : w.cell? ⟨b3, 2, none⟩ = some (.int .i64 cf)) (y3 : w.cell? ⟨b3, 3, none⟩ = some (.int .i64 ik)) (y4 : w.cell? ⟨b3, 4, none⟩ = some (.int .i64 inn)) (y5 : w.cell? ⟨b3, 5, none⟩ = some (.slice ia il ic)) (y6 : w.cell? ⟨b3, 6, none⟩ = some (.int .i64 ek)) (y7 : w.cell? ⟨b3, 7, none⟩ = some (.int .i64 en)) (y8 : w.cell? ⟨b3, 8, none⟩ = some (.slice ea el ec)) (y9 : w.cell? ⟨b3, 9, none⟩ = some (.slice aa na ac)) (y10 : w.cell? ⟨b3, 10, none⟩ = some (.slice xa nt xc)) (y11 : w.cell? ⟨b3, 11, none⟩ = some (.slice la ne lc)) (y12 : w.cell? ⟨b3, 12, none⟩ = some (.int .i64 ka)) (y13 : w.cell? ⟨b3, 13, none⟩ = some (.bool b13)) (y14 : w.cell? ⟨b3, 14, none⟩ = some (.bool b14)) (hrow : w.ownsRow B 82 15 (.slice ra n rc) n xs) (hB : B ≤ w.heap.size) (hn : n ≤ 1000000) (hne : (Value.slice ra n rc).ownBlock ≠ some g)
  (hQ : ∀ T' w', (Fq.Kp 11 T T' ∧ ∃ gA cA w6, w' = w6.setCell ⟨g, k5 + 4, none⟩ (.slice (some ⟨gA, 0, none⟩) (n + 1) cA) ∧ w.grownBy w6 (Value.slice ra n rc).ownBlock ∧ w6.ownsRow B 82 15 (.slice (some ⟨gA, 0, none⟩) (n + 1) cA) (n + 1) (xs ++ [.int .i64 ck, .int .i64 cv, .int .i64 cf, .int .i64 ik, .int .i64 inn, .slice ia il ic, .int .i64 ek, .int .i64 en, .slice ea el ec, .slice aa na ac, .slice xa nt xc, .slice la ne lc, .int .i64 ka, .bool b13, .bool b14]) ∧ ((Value.slice ra n rc).ownBlock = some gA ∨ w.heap.size ≤ gA)) → Q .normal ⟨T', []⟩ w') : (Fq.reg Try.f41 42).wp Try.prog Q ⟨T, []⟩ w := by
 have HQ := hide hQ
 clear hQ
 conv => arg 2; whnf
 refine Fq.norm (fun T' w' => Fq.Kp 11 T T' ∧ ∃ gA cA w6, w' = w6.setCell ⟨g, k5 + 4, none⟩ (.slice (some ⟨gA, 0, none⟩) (n + 1) cA) ∧ w.grownBy w6 (Value.slice ra n rc).ownBlock ∧ w6.ownsRow B 82 15 (.slice (some ⟨gA, 0, none⟩) (n + 1) cA) (n + 1) (xs ++ [.int .i64 ck, .int .i64 cv, .int .i64 cf, .int .i64 ik, .int .i64 inn, .slice ia il ic, .int .i64 ek, .int .i64 en, .slice ea el ec, .slice aa na ac, .slice xa nt xc, .slice la ne lc, .int .i64 ka, .bool b13, .bool b14]) ∧ ((Value.slice ra n rc).ownBlock = some gA ∨ w.heap.size ≤ gA)) (fun T' w' h => (unhide HQ) T' w' h) ?_
 obtain ⟨t, ht⟩ : ∃ t : Nat → Value, t = fun i => T.getD i (.tuple #[]) := ⟨_, rfl⟩
 have hTl : T = #[t 0, t 1, t 2, t 3, t 4, t 5, t 6, t 7, t 8, t 9, t 10, t 11, t 12, t 13, t 14, t 15, t 16, t 17, t 18, t 19, t 20, t 21, t 22, t 23, t 24, t 25, t 26, t 27, t 28, t 29, t 30, t 31, t 32, t 33, t 34, t 35, t 36, t 37, t 38, t 39, t 40, t 41, t 42, t 43, t 44, t 45, t 46, t 47, t 48, t 49, t 50, t 51, t 52, t 53, t 54, t 55, t 56, t 57, t 58, t 59, t 60, t 61, t 62, t 63, t 64, t 65, t 66, t 67, t 68, t 69, t 70, t 71, t 72, t 73, t 74, t 75, t 76, t 77, t 78, t 79, t 80, t 81, t 82, t 83, t 84, t 85, t 86, t 87, t 88, t 89, t 90, t 91, t 92, t 93, t 94, t 95, t 96, t 97, t 98, t 99, t 100, t 101, t 102, t 103, t 104, t 105, t 106, t 107, t 108, t 109, t 110, t 111, t 112, t 113, t 114, t 115, t 116, t 117, t 118, t 119, t 120, t 121, t 122, t 123, t 124, t 125, t 126, t 127, t 128, t 129, t 130, t 131, t 132, t 133, t 134, t 135, t 136, t 137, t 138, t 139, t 140, t 141, t 142, t 143, t 144, t 145, t 146, t 147, t 148, t 149, t 150, t 151, t 152, t 153, t 154, t 155, t 156, t 157, t 158, t 159, t 160, t 161, t 162, t 163, t 164, t 165, t 166, t 167, t 168, t 169, t 170, t 171, t 172, t 173, t 174, t 175, t 176, t 177, t 178, t 179, t 180, t 181, t 182, t 183, t 184, t 185, t 186, t 187, t 188, t 189, t 190, t 191, t 192, t 193, t 194, t 195, t 196, t 197, t 198, t 199, t 200, t 201, t 202, t 203, t 204, t 205, t 206, t 207, t 208, t 209, t 210, t 211, t 212, t 213, t 214, t 215, t 216, t 217, t 218, t 219, t 220, t 221, t 222, t 223, t 224, t 225, t 226, t 227, t 228, t 229, t 230] := by rw [ht]; exact Fq.ls_is hT
 rw [(congrFun ht 2).trans (Fq.gd s2), (congrFun ht 3).trans (Fq.gd s3)] at hTl
 clear ht hT s2 s3
 refine Fq.fr hTl ?_
 have HTL := hide hTl
 clear hTl
 obtain ⟨i0, hi0, hz0, hz1', hz2⟩ := info_of Try.infoTk
 have HI := hide hi0
 have HZ0 := hide hz0
 have HZ1 := hide hz1'
 have HZ2 := hide hz2
 have HROW := hide hrow
 have HNE := hide hne
 have hbm := World.block_lt_of_cell? w _ h4
 clear hi0 hz0 hz1' hz2 hrow hne
 have HBK := hide (heap_alloc_new w (Obj.cells #[.int .i64 ck, .int .i64 cv, .int .i64 cf, .int .i64 ik, .int .i64 inn, .slice ia il ic, .int .i64 ek, .int .i64 en, .slice ea el ec, .slice aa na ac, .slice xa nt xc, .slice la ne lc, .int .i64 ka, .bool b13, .bool b14] 82))
 have HBD := hide (show Below w.heap.size w (w.alloc (Obj.cells #[.int .i64 ck, .int .i64 cv, .int .i64 cf, .int .i64 ik, .int .i64 inn, .slice ia il ic, .int .i64 ek, .int .i64 en, .slice ea el ec, .slice aa na ac, .slice xa nt xc, .slice la ne lc, .int .i64 ka, .bool b13, .bool b14] 82)).drew from ((Below.refl w.heap.size w).alloc (Nat.le_refl _) _).drew)
 have h4b : (w.alloc (Obj.cells #[.int .i64 ck, .int .i64 cv, .int .i64 cf, .int .i64 ik, .int .i64 inn, .slice ia il ic, .int .i64 ek, .int .i64 en, .slice ea el ec, .slice aa na ac, .slice xa nt xc, .slice la ne lc, .int .i64 ka, .bool b13, .bool b14] 82)).cell? ⟨g, k5 + 4, none⟩ = some (.slice ra n rc) := (((Below.refl w.heap.size w).alloc (Nat.le_refl _) _).cell (p := ⟨g, k5 + 4, none⟩) hbm).trans h4
 go_region_law (first
  | (refine step_append_lies _ rfl (.tmp 218) (.tmp 220) 83 rfl B 82 i0 _ 15 192 Try.underlying83 (unhide HI) (unhide HZ0) (unhide HZ1) (unhide HZ2) rfl (by omega) (.slice ra n rc) n xs rfl (Pg.ow_below (unhide HROW) (unhide HBD)) _ 1 1 [.int .i64 ck, .int .i64 cv, .int .i64 cf, .int .i64 ik, .int .i64 inn, .slice ia il ic, .int .i64 ek, .int .i64 en, .slice ea el ec, .slice aa na ac, .slice xa nt xc, .slice la ne lc, .int .i64 ka, .bool b13, .bool b14] rfl rfl (World.news_of_block (unhide HBK)) (by simp [Value.oneCell']) (by omega) (by unfold maxLen; omega) (by omega) (by simp; omega) _ rfl ?_; intro gA cA w6 hoA hgA hatA hltA; have HOA := hide hoA; have HGA := hide (show w.grownBy w6 (Value.slice ra n rc).ownBlock from ⟨hgA.os.trans (unhide HBD).os, hgA.tape.trans (unhide HBD).tape, hgA.output.trans (unhide HBD).output, Nat.le_trans (unhide HBD).size hgA.size, fun q h1 h2 => (hgA.block q (Nat.lt_of_lt_of_le h1 (unhide HBD).size) h2).trans ((unhide HBD).block q h1)⟩); have HAT := hide (show (Value.slice ra n rc).ownBlock = some gA ∨ w.heap.size ≤ gA from hatA.imp id (fun e => by rw [e]; exact (unhide HBD).size)); have hbb := (unhide HGA).block g hbm (fun e => (unhide HNE) e.symm); have z4 := (Xr.cell_kept hbb (k5 + 4)).trans h4; have z5 := (Xr.frz_kept hbb (k5 + 4)).trans hf; clear hatA hltA hoA hgA hbb))
 all_goals
  have HB := hide (show ∃ gA cA w6, _ = w6.setCell ⟨g, k5 + 4, none⟩ (.slice (some ⟨gA, 0, none⟩) (n + 1) cA) ∧ w.grownBy w6 (Value.slice ra n rc).ownBlock ∧ w6.ownsRow B 82 15 (.slice (some ⟨gA, 0, none⟩) (n + 1) cA) (n + 1) (xs ++ [.int .i64 ck, .int .i64 cv, .int .i64 cf, .int .i64 ik, .int .i64 inn, .slice ia il ic, .int .i64 ek, .int .i64 en, .slice ea el ec, .slice aa na ac, .slice xa nt xc, .slice la ne lc, .int .i64 ka, .bool b13, .bool b14]) ∧ ((Value.slice ra n rc).ownBlock = some gA ∨ w.heap.size ≤ gA) from ⟨gA, cA, w6, rfl, unhide HGA, unhide HOA, unhide HAT⟩)
  exact ⟨rfl, ⟨by rw [unhide HTL]; rfl, fun k hk => by rw [unhide HTL]; rcases (show k = 0 ∨ k = 1 ∨ k = 2 ∨ k = 3 ∨ k = 4 ∨ k = 5 ∨ k = 6 ∨ k = 7 ∨ k = 8 ∨ k = 9 ∨ k = 10 by omega) with rfl | rfl | rfl | rfl | rfl | rfl | rfl | rfl | rfl | rfl | rfl <;> rfl⟩, unhide HB⟩
end
end Go.Proofs.Ytcalcikclcmkaaa
