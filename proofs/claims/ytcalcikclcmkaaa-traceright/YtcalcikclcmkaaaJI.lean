/-
  YLa, YLb, YLd. By the verifier.
-/
import Derived.Test.YtcalcikclcmkaaaJB
import Derived.Test.YtcalcikclcmkaaaXNw
import Derived.Deep.RegionLaw
set_option maxRecDepth 100000
set_option maxHeartbeats 3200000
namespace Go.Proofs.Ytcalcikclcmkaaa
open Go.RowKit
set_option linter.unusedVariables false
section
variable {T : Array Value} {w : World} {Q : Exit → Act → World → Prop} {bm g c : Nat}
theorem ml_r0 {il ic el ec na ac nt xc ne lc : Nat} {ck cv cf ik inn ek en : Int} {ia ea aa xa la : Option Addr} (hT : T.size = 120) (s1 : T[1]? = some (.agg #[.int .i64 ck, .int .i64 cv, .int .i64 cf, .int .i64 ik, .int .i64 inn, .slice ia il ic, .int .i64 ek, .int .i64 en, .slice ea el ec, .slice aa na ac, .slice xa nt xc, .slice la ne lc]))
  (hQ : ∀ T', (Fq.Kp 1 T T' ∧ T'[3]? = some (.pointer (some ⟨w.heap.size, 0, none⟩))) → Q .normal ⟨T', []⟩ (w.alloc (Obj.cells #[.int .i64 ck, .int .i64 cv, .int .i64 cf, .int .i64 ik, .int .i64 inn, .slice ia il ic, .int .i64 ek, .int .i64 en, .slice ea el ec, .slice aa na ac, .slice xa nt xc, .slice la ne lc] 80))) : (Fq.reg Try.f78 0).wp Try.prog Q ⟨T, []⟩ w := by
 have a1 := fun h => Fq.el s1 h
 have d1 := Fq.gd s1
 have hu : undef = Value.tuple #[] := rfl
 have HQ := hide hQ
 clear hQ
 conv => arg 2; whnf
 go_wp2_with fail
 exact (unhide HQ) _ ⟨(by (repeat (with_reducible refine Fq.Kp.set ?_ (by decide) _)); with_reducible exact Fq.Kp.refl _ _), Fq.set_at _ (by simp [hT]) _⟩
theorem ml_r1 (hT : T.size = 120)
  (hQ : ∀ T', (Fq.Kp 4 T T' ∧ T'[4]? = some (.slice none 0 0)) → Q .normal ⟨T', []⟩ (w)) : (Fq.reg Try.f78 1).wp Try.prog Q ⟨T, []⟩ w := by
 have hu : undef = Value.tuple #[] := rfl
 have HQ := hide hQ
 clear hQ
 conv => arg 2; whnf
 go_wp2_with fail
 exact (unhide HQ) _ ⟨(by (repeat (with_reducible refine Fq.Kp.set ?_ (by decide) _)); with_reducible exact Fq.Kp.refl _ _), Fq.set_at _ (by simp [hT]) _⟩
theorem ml_r2 (hT : T.size = 120)
  (hQ : ∀ T', (Fq.Kp 5 T T' ∧ T'[5]? = some (.int .i64 0)) → Q .normal ⟨T', []⟩ (w)) : (Fq.reg Try.f78 2).wp Try.prog Q ⟨T, []⟩ w := by
 have hu : undef = Value.tuple #[] := rfl
 have HQ := hide hQ
 clear hQ
 conv => arg 2; whnf
 go_wp2_with fail
 exact (unhide HQ) _ ⟨(by (repeat (with_reducible refine Fq.Kp.set ?_ (by decide) _)); with_reducible exact Fq.Kp.refl _ _), Fq.set_at _ (by simp [hT]) _⟩
theorem ml_r3 {i na ac b3 : Nat} {aa : Option Addr} {VB : Bool} (hT : T.size = 120) (s3 : T[3]? = some (.pointer (some ⟨b3, 0, none⟩))) (s5 : T[5]? = some (.int .i64 (i : Nat))) (x9 : w.cell? ⟨b3, 9, none⟩ = some (.slice aa na ac)) (hna : na ≤ 35184372088832) (hVB : VB = decide ((i : Int) < (na : Nat)))
  (hQ : ∀ T', (Fq.Kp 12 T T' ∧ T'[16]? = some (.bool VB)) → Q .normal ⟨T', []⟩ (w)) : (Fq.reg Try.f78 3).wp Try.prog Q ⟨T, []⟩ w := by
 have a3 := fun h => Fq.el s3 h
 have d3 := Fq.gd s3
 have a5 := fun h => Fq.el s5 h
 have d5 := Fq.gd s5
 have hu : undef = Value.tuple #[] := rfl
 have HQ := hide hQ
 clear hQ
 conv => arg 2; whnf
 by_cases hR : (i : Int) < (na : Nat)
 · have HV3 := hide (show VB = true by rw [hVB, decide_eq_true hR] <;> rfl)
   clear hVB
   go_wp2_with fail
   exact (unhide HQ) _ ⟨(by (repeat (with_reducible refine Fq.Kp.set ?_ (by decide) _)); with_reducible exact Fq.Kp.refl _ _), (Fq.set_at _ (by simp [hT]) _).trans (by rw [unhide HV3] <;> rfl)⟩
 · have HV3 := hide (show VB = false by rw [hVB, decide_eq_false hR] <;> rfl)
   skip
   clear hVB
   go_wp2_with fail
   exact (unhide HQ) _ ⟨(by (repeat (with_reducible refine Fq.Kp.set ?_ (by decide) _)); with_reducible exact Fq.Kp.refl _ _), (Fq.set_at _ (by simp [hT]) _).trans (by rw [unhide HV3] <;> rfl)⟩
theorem ml_r4 {i : Nat} (hT : T.size = 120) (s5 : T[5]? = some (.int .i64 (i : Nat))) (hi : i ≤ 35184372088832)
  (hQ : ∀ T', (Fq.Kp 5 T T' ∧ T'[5]? = some (.int .i64 ((i + 1 : Nat) : Int))) → Q .normal ⟨T', []⟩ (w)) : (Fq.reg Try.f78 4).wp Try.prog Q ⟨T, []⟩ w := by
 have a5 := fun h => Fq.el s5 h
 have d5 := Fq.gd s5
 have hu : undef = Value.tuple #[] := rfl
 have HQ := hide hQ
 clear hQ
 conv => arg 2; whnf
 go_wp2_with fail
 exact (unhide HQ) _ ⟨(by (repeat (with_reducible refine Fq.Kp.set ?_ (by decide) _)); with_reducible exact Fq.Kp.refl _ _), (Fq.set_at _ (by simp [hT]) _).trans (congrArg some (by go_num))⟩
theorem ml_r5 {i b o na ac b3 zl zc : Nat} {ak an z : Int} {za : Option Addr} {ok : Bool} (hT : T.size = 120) (s0 : T[0]? = some (.pointer (some ⟨bm, 0, none⟩))) (s3 : T[3]? = some (.pointer (some ⟨b3, 0, none⟩))) (s5 : T[5]? = some (.int .i64 (i : Nat))) {R : World → Prop} (x9 : w.cell? ⟨b3, 9, none⟩ = some (.slice (some ⟨b, o, none⟩) na ac)) (hi : i < na) (hna : na ≤ 35184372088832) (g0 : w.cell? ⟨b, o + i * 3, none⟩ = some (.int .i64 ak)) (g1 : w.cell? ⟨b, o + i * 3 + 1, none⟩ = some (.int .i64 an)) (g2 : w.cell? ⟨b, o + i * 3 + 2, none⟩ = some (.slice za zl zc)) (hc : Calls Try.prog 80 #[.pointer (some ⟨bm, 0, none⟩), .agg #[.int .i64 ak, .int .i64 an, .slice za zl zc]] w fun r w' => r = .returned (.tuple #[.int .i64 z, .bool ok]) ∧ R w')
  (hQ : ∀ T' w', (Fq.Kp 6 T T' ∧ T'[6]? = some (.int .i64 z) ∧ T'[7]? = some (.bool ok) ∧ R w') → Q .normal ⟨T', []⟩ w') : (Fq.reg Try.f78 5).wp Try.prog Q ⟨T, []⟩ w := by
 have a0 := fun h => Fq.el s0 h
 have d0 := Fq.gd s0
 have a3 := fun h => Fq.el s3 h
 have d3 := Fq.gd s3
 have a5 := fun h => Fq.el s5 h
 have d5 := Fq.gd s5
 have hu : undef = Value.tuple #[] := rfl
 have HQ := hide hQ
 clear hQ
 conv => arg 2; whnf
 have HC := hide hc
 have i0 : (0 : Int) ≤ (i : Int) := by omega
 have i1 : (i : Int) < (na : Int) := by omega
 clear hc
 go_wp2_with (with_reducible refine (Calls.mono (unhide HC) ?_); rintro r w2 ⟨rfl, hb2⟩; have HB := hide hb2; clear hb2)
 exact (unhide HQ) _ _ ⟨(by (repeat (with_reducible refine Fq.Kp.set ?_ (by decide) _)); with_reducible exact Fq.Kp.refl _ _), by simp [hT], by simp [hT], unhide HB⟩
theorem ml_r6 {ok : Bool} (hT : T.size = 120) (s7 : T[7]? = some (.bool ok))
  (hQ : ∀ T', (Fq.Kp 12 T T' ∧ T'[30]? = some (.bool (!ok))) → Q .normal ⟨T', []⟩ (w)) : (Fq.reg Try.f78 6).wp Try.prog Q ⟨T, []⟩ w := by
 have a7 := fun h => Fq.el s7 h
 have d7 := Fq.gd s7
 have hu : undef = Value.tuple #[] := rfl
 have HQ := hide hQ
 clear hQ
 conv => arg 2; whnf
 go_wp2_with fail
 exact (unhide HQ) _ ⟨(by (repeat (with_reducible refine Fq.Kp.set ?_ (by decide) _)); with_reducible exact Fq.Kp.refl _ _), Fq.set_at _ (by simp [hT]) _⟩
theorem ml_r7 {ra : Option Addr} {i rc : Nat} {z : Int} (hT : T.size = 120) (s4 : T[4]? = some (.slice ra i rc)) (s5 : T[5]? = some (.int .i64 (i : Nat))) (s6 : T[6]? = some (.int .i64 z)) {B : Nat} (xs : List Value) (hrow : w.ownsRow B 3 1 (.slice ra i rc) i xs) (hB : B ≤ w.heap.size) (hi : i ≤ 1000)
  (hQ : ∀ T' w', (Fq.Kp 4 T T' ∧ T'[5]? = some (.int .i64 (i : Nat)) ∧ (∃ gA cA, T'[4]? = some (.slice (some ⟨gA, 0, none⟩) (i + 1) cA) ∧ w'.ownsRow B 3 1 (.slice (some ⟨gA, 0, none⟩) (i + 1) cA) (i + 1) (xs ++ [.int .i64 z])) ∧ Below B w w') → Q .normal ⟨T', []⟩ w') : (Fq.reg Try.f78 7).wp Try.prog Q ⟨T, []⟩ w := by
 have HQ := hide hQ
 clear hQ
 conv => arg 2; whnf
 refine Fq.norm (fun T' w' => Fq.Kp 4 T T' ∧ T'[5]? = some (.int .i64 (i : Nat)) ∧ (∃ gA cA, T'[4]? = some (.slice (some ⟨gA, 0, none⟩) (i + 1) cA) ∧ w'.ownsRow B 3 1 (.slice (some ⟨gA, 0, none⟩) (i + 1) cA) (i + 1) (xs ++ [.int .i64 z])) ∧ Below B w w') (fun T' w' h => (unhide HQ) T' w' h) ?_
 obtain ⟨t, ht⟩ : ∃ t : Nat → Value, t = fun i => T.getD i (.tuple #[]) := ⟨_, rfl⟩
 have hTl : T = #[t 0, t 1, t 2, t 3, t 4, t 5, t 6, t 7, t 8, t 9, t 10, t 11, t 12, t 13, t 14, t 15, t 16, t 17, t 18, t 19, t 20, t 21, t 22, t 23, t 24, t 25, t 26, t 27, t 28, t 29, t 30, t 31, t 32, t 33, t 34, t 35, t 36, t 37, t 38, t 39, t 40, t 41, t 42, t 43, t 44, t 45, t 46, t 47, t 48, t 49, t 50, t 51, t 52, t 53, t 54, t 55, t 56, t 57, t 58, t 59, t 60, t 61, t 62, t 63, t 64, t 65, t 66, t 67, t 68, t 69, t 70, t 71, t 72, t 73, t 74, t 75, t 76, t 77, t 78, t 79, t 80, t 81, t 82, t 83, t 84, t 85, t 86, t 87, t 88, t 89, t 90, t 91, t 92, t 93, t 94, t 95, t 96, t 97, t 98, t 99, t 100, t 101, t 102, t 103, t 104, t 105, t 106, t 107, t 108, t 109, t 110, t 111, t 112, t 113, t 114, t 115, t 116, t 117, t 118, t 119] := by rw [ht]; exact Fq.ls_is hT
 rw [(congrFun ht 4).trans (Fq.gd s4), (congrFun ht 5).trans (Fq.gd s5), (congrFun ht 6).trans (Fq.gd s6)] at hTl
 clear ht hT s4 s5 s6
 refine Fq.fr hTl ?_
 have HTL := hide hTl
 clear hTl
 obtain ⟨i0, hi0, hz0, hz1', hz2⟩ := info_of Try.infoI3
 have HI := hide hi0
 have HZ0 := hide hz0
 have HZ1 := hide hz1'
 have HZ2 := hide hz2
 have HROW := hide hrow
 clear hi0 hz0 hz1' hz2 hrow
 have HBK := hide (heap_alloc_new w (Obj.cells #[.int .i64 z] 3))
 have HBD := hide (show Below w.heap.size w (w.alloc (Obj.cells #[.int .i64 z] 3)) from (Below.refl _ _).alloc (Nat.le_refl _) _)
 have HLT := hide (show ∀ q, (Value.slice ra i rc).ownBlock = some q → B ≤ q from fun q hq => ((unhide HROW).lt q hq).1)
 go_wp2_with (at_builtin; refine wpList_append_lies _ (by rfl) _ _ _ (by rfl) B 3 i0 _ 1 8 Try.underlying37 (unhide HI) (unhide HZ0) (unhide HZ1) (unhide HZ2) rfl (by omega) (.slice ra i rc) i xs (by rfl) (Pg.ow_below (unhide HROW) (unhide HBD)) ⟨w.heap.size, 0, none⟩ 1 1 [.int .i64 z] (by rfl) (by rfl) (World.news_of_block (unhide HBK)) (by simp [Value.oneCell']) (by omega) (by unfold maxLen; omega) (by omega) (by simp; omega) (w.heap.size + 1) (by simp) ?_; intro gA cA w6 hoA hgA hatA hltA; have HOA := hide hoA; have HGA := hide (show Below B w w6 from Below.grown (((unhide HBD).mono hB)) hgA (Nat.le_trans hB (unhide HBD).size) (unhide HLT)); clear hoA hgA hatA hltA)
 exact ⟨rfl, ⟨by rw [unhide HTL]; rfl, fun k hk => by rw [unhide HTL]; rcases (show k = 0 ∨ k = 1 ∨ k = 2 ∨ k = 3 by omega) with rfl | rfl | rfl | rfl <;> rfl⟩, (by first | rfl | simp), ⟨gA, cA, rfl, unhide HOA⟩, unhide HGA⟩
theorem ml_r8 {k5 : Nat} {at_ : Int} (hT : T.size = 120) (s0 : T[0]? = some (.pointer (some ⟨bm, 0, none⟩))) (hc : Calls Try.prog 74 #[.pointer (some ⟨bm, 0, none⟩)] w fun r w' => r = .returned (.pointer (some ⟨g, k5, none⟩)) ∧ Below w.heap.size w w') (ha : ∀ V, Below w.heap.size w V → V.cell? ⟨g, k5 + 2, none⟩ = some (.int .i64 at_))
  (hQ : ∀ T' w', (Fq.Kp 8 T T' ∧ T'[8]? = some (.int .i64 at_) ∧ Below w.heap.size w w') → Q .normal ⟨T', []⟩ w') : (Fq.reg Try.f78 8).wp Try.prog Q ⟨T, []⟩ w := by
 have a0 := fun h => Fq.el s0 h
 have d0 := Fq.gd s0
 have hu : undef = Value.tuple #[] := rfl
 have HQ := hide hQ
 clear hQ
 conv => arg 2; whnf
 have HC := hide hc
 have HA := hide ha
 clear hc ha
 go_wp2_with (with_reducible refine (Calls.mono (unhide HC) ?_); rintro r w2 ⟨rfl, hb2⟩; have HB := hide hb2; have z2 := (unhide HA) _ hb2; clear hb2)
 exact (unhide HQ) _ _ ⟨(by (repeat (with_reducible refine Fq.Kp.set ?_ (by decide) _)); with_reducible exact Fq.Kp.refl _ _), Fq.set_at _ (by simp [hT]) _, unhide HB⟩
theorem ml_r9 {n : Nat} {VB : Bool} (hT : T.size = 120) (s0 : T[0]? = some (.pointer (some ⟨bm, 0, none⟩))) (h6 : w.cell? ⟨bm, 6, none⟩ = some (.slice (some ⟨g, 0, none⟩) n c)) (hn : n ≤ 1000) (hVB : VB = decide (n = 6))
  (hQ : ∀ T', (Fq.Kp 12 T T' ∧ T'[45]? = some (.bool VB)) → Q .normal ⟨T', []⟩ (w)) : (Fq.reg Try.f78 9).wp Try.prog Q ⟨T, []⟩ w := by
 have a0 := fun h => Fq.el s0 h
 have d0 := Fq.gd s0
 have hu : undef = Value.tuple #[] := rfl
 have HQ := hide hQ
 clear hQ
 conv => arg 2; whnf
 by_cases hR : n = 6
 · have HV3 := hide (show VB = true by rw [hVB, decide_eq_true hR] <;> rfl)
   clear hVB
   go_wp2_with fail
   exact (unhide HQ) _ ⟨(by (repeat (with_reducible refine Fq.Kp.set ?_ (by decide) _)); with_reducible exact Fq.Kp.refl _ _), (Fq.set_at _ (by simp [hT]) _).trans (by rw [unhide HV3] <;> rfl)⟩
 · have HV3 := hide (show VB = false by rw [hVB, decide_eq_false hR] <;> rfl)
   have b0 : (((n : Nat) : Int) == 6) = false := by simp; omega
   clear hVB
   go_wp2_with fail
   exact (unhide HQ) _ ⟨(by (repeat (with_reducible refine Fq.Kp.set ?_ (by decide) _)); with_reducible exact Fq.Kp.refl _ _), (Fq.set_at _ (by simp [hT]) _).trans (by rw [unhide HV3] <;> rfl)⟩
theorem ml_r10 {at_ : Int} (hT : T.size = 120) (s0 : T[0]? = some (.pointer (some ⟨bm, 0, none⟩))) (s8 : T[8]? = some (.int .i64 at_)) {R : World → Prop} (hc : Calls Try.prog 76 #[.pointer (some ⟨bm, 0, none⟩), .int .i64 at_, .int .i64 4] w fun r w' => r = .returned (.tuple #[]) ∧ R w')
  (hQ : ∀ T' w', (Fq.Kp 12 T T' ∧ R w') → Q .normal ⟨T', []⟩ w') : (Fq.reg Try.f78 10).wp Try.prog Q ⟨T, []⟩ w := by
 have a0 := fun h => Fq.el s0 h
 have d0 := Fq.gd s0
 have a8 := fun h => Fq.el s8 h
 have d8 := Fq.gd s8
 have hu : undef = Value.tuple #[] := rfl
 have HQ := hide hQ
 clear hQ
 conv => arg 2; whnf
 have HC := hide hc
 clear hc
 go_wp2_with (with_reducible refine (Calls.mono (unhide HC) ?_); rintro r w2 ⟨rfl, hb2⟩; have HB := hide hb2; clear hb2)
 exact (unhide HQ) _ _ ⟨(by (repeat (with_reducible refine Fq.Kp.set ?_ (by decide) _)); with_reducible exact Fq.Kp.refl _ _), unhide HB⟩
theorem ml_r15 {k : Nat} (hT : T.size = 120) (s0 : T[0]? = some (.pointer (some ⟨bm, 0, none⟩))) (h5 : w.cell? ⟨bm, 5, none⟩ = some (.int .i64 (k : Nat))) (hf : w.frozen? ⟨bm, 5, none⟩ = false) (hk : k ≤ 1000000)
  (hQ : ∀ T', (Fq.Kp 12 T T') → Q .normal ⟨T', []⟩ (w.setCell ⟨bm, 5, none⟩ (.int .i64 ((k + 1 : Nat) : Int)))) : (Fq.reg Try.f78 15).wp Try.prog Q ⟨T, []⟩ w := by
 have a0 := fun h => Fq.el s0 h
 have d0 := Fq.gd s0
 have hu : undef = Value.tuple #[] := rfl
 have HQ := hide hQ
 clear hQ
 conv => arg 2; whnf
 have hw0 : IntKind.i64.wrap ((k : Int) + 1) = (k : Int) + 1 := by rw [IntKind.wrap_i64]; omega
 have hc : ((k + 1 : Nat) : Int) = (k : Int) + 1 := by omega
 rw [hc] at HQ
 go_wp2_with fail
 exact (unhide HQ) _ (by (repeat (with_reducible refine Fq.Kp.set ?_ (by decide) _)); with_reducible exact Fq.Kp.refl _ _)
theorem ml_r17 (hT : T.size = 120)
  (hQ : ∀ T', (Fq.Kp 11 T T' ∧ T'[11]? = some (.int .i64 0)) → Q .normal ⟨T', []⟩ (w)) : (Fq.reg Try.f78 17).wp Try.prog Q ⟨T, []⟩ w := by
 have hu : undef = Value.tuple #[] := rfl
 have HQ := hide hQ
 clear hQ
 conv => arg 2; whnf
 go_wp2_with fail
 exact (unhide HQ) _ ⟨(by (repeat (with_reducible refine Fq.Kp.set ?_ (by decide) _)); with_reducible exact Fq.Kp.refl _ _), Fq.set_at _ (by simp [hT]) _⟩
theorem ml_r18 {i nl rc : Nat} {ra : Option Addr} {VB : Bool} (hT : T.size = 120) (s4 : T[4]? = some (.slice ra nl rc)) (s11 : T[11]? = some (.int .i64 (i : Nat))) (hnl : nl ≤ 35184372088832) (hVB : VB = decide ((i : Int) < (nl : Nat)))
  (hQ : ∀ T', (Fq.Kp 12 T T' ∧ T'[109]? = some (.bool VB)) → Q .normal ⟨T', []⟩ (w)) : (Fq.reg Try.f78 18).wp Try.prog Q ⟨T, []⟩ w := by
 have a4 := fun h => Fq.el s4 h
 have d4 := Fq.gd s4
 have a11 := fun h => Fq.el s11 h
 have d11 := Fq.gd s11
 have hu : undef = Value.tuple #[] := rfl
 have HQ := hide hQ
 clear hQ
 conv => arg 2; whnf
 by_cases hR : (i : Int) < (nl : Nat)
 · have HV3 := hide (show VB = true by rw [hVB, decide_eq_true hR] <;> rfl)
   clear hVB
   go_wp2_with fail
   exact (unhide HQ) _ ⟨(by (repeat (with_reducible refine Fq.Kp.set ?_ (by decide) _)); with_reducible exact Fq.Kp.refl _ _), (Fq.set_at _ (by simp [hT]) _).trans (by rw [unhide HV3] <;> rfl)⟩
 · have HV3 := hide (show VB = false by rw [hVB, decide_eq_false hR] <;> rfl)
   skip
   clear hVB
   go_wp2_with fail
   exact (unhide HQ) _ ⟨(by (repeat (with_reducible refine Fq.Kp.set ?_ (by decide) _)); with_reducible exact Fq.Kp.refl _ _), (Fq.set_at _ (by simp [hT]) _).trans (by rw [unhide HV3] <;> rfl)⟩
theorem ml_r19 {i : Nat} (hT : T.size = 120) (s11 : T[11]? = some (.int .i64 (i : Nat))) (hi : i ≤ 35184372088832)
  (hQ : ∀ T', (Fq.Kp 11 T T' ∧ T'[11]? = some (.int .i64 ((i + 1 : Nat) : Int))) → Q .normal ⟨T', []⟩ (w)) : (Fq.reg Try.f78 19).wp Try.prog Q ⟨T, []⟩ w := by
 have a11 := fun h => Fq.el s11 h
 have d11 := Fq.gd s11
 have hu : undef = Value.tuple #[] := rfl
 have HQ := hide hQ
 clear hQ
 conv => arg 2; whnf
 go_wp2_with fail
 exact (unhide HQ) _ ⟨(by (repeat (with_reducible refine Fq.Kp.set ?_ (by decide) _)); with_reducible exact Fq.Kp.refl _ _), (Fq.set_at _ (by simp [hT]) _).trans (congrArg some (by go_num))⟩
theorem ml_r20 {gl i nl rc : Nat} {at_ z : Int} (hT : T.size = 120) (s0 : T[0]? = some (.pointer (some ⟨bm, 0, none⟩))) (s4 : T[4]? = some (.slice (some ⟨gl, 0, none⟩) nl rc)) (s8 : T[8]? = some (.int .i64 at_)) (s11 : T[11]? = some (.int .i64 (i : Nat))) {R : World → Prop} (hi : i < nl) (hnl : nl ≤ 35184372088832) (hz : w.cell? ⟨gl, i, none⟩ = some (.int .i64 z)) (hc : Calls Try.prog 79 #[.pointer (some ⟨bm, 0, none⟩), .int .i64 at_, .int .i64 (i : Nat), .int .i64 0, .int .i64 z] w fun r w' => r = .returned (.tuple #[]) ∧ R w')
  (hQ : ∀ T' w', (Fq.Kp 12 T T' ∧ R w') → Q .normal ⟨T', []⟩ w') : (Fq.reg Try.f78 20).wp Try.prog Q ⟨T, []⟩ w := by
 have a0 := fun h => Fq.el s0 h
 have d0 := Fq.gd s0
 have a4 := fun h => Fq.el s4 h
 have d4 := Fq.gd s4
 have a8 := fun h => Fq.el s8 h
 have d8 := Fq.gd s8
 have a11 := fun h => Fq.el s11 h
 have d11 := Fq.gd s11
 have hu : undef = Value.tuple #[] := rfl
 have HQ := hide hQ
 clear hQ
 conv => arg 2; whnf
 have HC := hide hc
 have i0 : (0 : Int) ≤ (i : Int) := by omega
 have i1 : (i : Int) < (nl : Int) := by omega
 clear hc
 go_wp2_with (with_reducible refine (Calls.mono (unhide HC) ?_); rintro r w2 ⟨rfl, hb2⟩; have HB := hide hb2; clear hb2)
 exact (unhide HQ) _ _ ⟨(by (repeat (with_reducible refine Fq.Kp.set ?_ (by decide) _)); with_reducible exact Fq.Kp.refl _ _), unhide HB⟩
end
end Go.Proofs.Ytcalcikclcmkaaa
namespace Go.Proofs.Ytcalcikclcmkaaa
open Go.RowKit
set_option linter.unusedVariables false
section
variable {T : Array Value} {w : World} {Q : Exit → Act → World → Prop} {bm g c : Nat}
theorem ml_r11 {b o q ql qc b3 : Nat} {sl sc fl fc rl rc : Nat} {fp rk rn : Int} {sa fa ra : Option Addr} (hT : T.size = 120) (s0 : T[0]? = some (.pointer (some ⟨bm, 0, none⟩))) (s3 : T[3]? = some (.pointer (some ⟨b3, 0, none⟩))) (p0 : w.cell? ⟨bm, 0, none⟩ = some (.slice (some ⟨b, o, none⟩) ql qc)) (x2 : w.cell? ⟨b3, 2, none⟩ = some (.int .i64 (q : Nat))) (hq : q < ql) (hql : ql ≤ 1000) (y0 : w.cell? ⟨b, o + q * 6, none⟩ = some (.int .i64 fp)) (y1 : w.cell? ⟨b, o + q * 6 + 1, none⟩ = some (.slice sa sl sc)) (y2 : w.cell? ⟨b, o + q * 6 + 2, none⟩ = some (.slice fa fl fc)) (y3 : w.cell? ⟨b, o + q * 6 + 3, none⟩ = some (.int .i64 rk)) (y4 : w.cell? ⟨b, o + q * 6 + 4, none⟩ = some (.int .i64 rn)) (y5 : w.cell? ⟨b, o + q * 6 + 5, none⟩ = some (.slice ra rl rc))
  (hQ : ∀ T', (Fq.Kp 9 T T' ∧ T'[9]? = some (.pointer (some ⟨w.heap.size, 0, none⟩))) → Q .normal ⟨T', []⟩ ((w.alloc (Obj.cells #[.int .i64 fp, .slice sa sl sc, .slice fa fl fc, .int .i64 rk, .int .i64 rn, .slice ra rl rc] 78)).drew)) : (Fq.reg Try.f78 11).wp Try.prog Q ⟨T, []⟩ w := by
 have HQ := hide hQ
 clear hQ
 conv => arg 2; whnf
 refine Fq.norm (fun T' w' => Fq.Kp 9 T T' ∧ T'[9]? = some (.pointer (some ⟨w.heap.size, 0, none⟩)) ∧ w' = ((w.alloc (Obj.cells #[.int .i64 fp, .slice sa sl sc, .slice fa fl fc, .int .i64 rk, .int .i64 rn, .slice ra rl rc] 78)).drew)) (fun T' w' h => by obtain ⟨h0, h1, rfl⟩ := h; exact (unhide HQ) T' ⟨h0, h1⟩) ?_
 obtain ⟨t, ht⟩ : ∃ t : Nat → Value, t = fun i => T.getD i (.tuple #[]) := ⟨_, rfl⟩
 have hTl : T = #[t 0, t 1, t 2, t 3, t 4, t 5, t 6, t 7, t 8, t 9, t 10, t 11, t 12, t 13, t 14, t 15, t 16, t 17, t 18, t 19, t 20, t 21, t 22, t 23, t 24, t 25, t 26, t 27, t 28, t 29, t 30, t 31, t 32, t 33, t 34, t 35, t 36, t 37, t 38, t 39, t 40, t 41, t 42, t 43, t 44, t 45, t 46, t 47, t 48, t 49, t 50, t 51, t 52, t 53, t 54, t 55, t 56, t 57, t 58, t 59, t 60, t 61, t 62, t 63, t 64, t 65, t 66, t 67, t 68, t 69, t 70, t 71, t 72, t 73, t 74, t 75, t 76, t 77, t 78, t 79, t 80, t 81, t 82, t 83, t 84, t 85, t 86, t 87, t 88, t 89, t 90, t 91, t 92, t 93, t 94, t 95, t 96, t 97, t 98, t 99, t 100, t 101, t 102, t 103, t 104, t 105, t 106, t 107, t 108, t 109, t 110, t 111, t 112, t 113, t 114, t 115, t 116, t 117, t 118, t 119] := by rw [ht]; exact Fq.ls_is hT
 rw [(congrFun ht 0).trans (Fq.gd s0), (congrFun ht 3).trans (Fq.gd s3)] at hTl
 clear ht hT s0 s3
 refine Fq.fr hTl ?_
 have HTL := hide hTl
 clear hTl
 have q0 : (0 : Int) ≤ (q : Int) := by omega
 have q1 : (q : Int) < (ql : Int) := by omega
 have hal := (Below.refl w.heap.size w).alloc (Nat.le_refl _) (Obj.cells #[.int .i64 0, .slice none 0 0, .slice none 0 0, .int .i64 0, .int .i64 0, .slice none 0 0] 78)
 have a_p0 : (w.alloc (Obj.cells #[.int .i64 0, .slice none 0 0, .slice none 0 0, .int .i64 0, .int .i64 0, .slice none 0 0] 78)).cell? ⟨bm, 0, none⟩ = some (.slice (some ⟨b, o, none⟩) ql qc) := (hal.cell (p := ⟨bm, 0, none⟩) (World.block_lt_of_cell? w _ p0)).trans p0
 have a_x2 : (w.alloc (Obj.cells #[.int .i64 0, .slice none 0 0, .slice none 0 0, .int .i64 0, .int .i64 0, .slice none 0 0] 78)).cell? ⟨b3, 2, none⟩ = some (.int .i64 (q : Nat)) := (hal.cell (p := ⟨b3, 2, none⟩) (World.block_lt_of_cell? w _ x2)).trans x2
 have a_y0 : (w.alloc (Obj.cells #[.int .i64 0, .slice none 0 0, .slice none 0 0, .int .i64 0, .int .i64 0, .slice none 0 0] 78)).cell? ⟨b, o + q * 6, none⟩ = some (.int .i64 fp) := (hal.cell (p := ⟨b, o + q * 6, none⟩) (World.block_lt_of_cell? w _ y0)).trans y0
 have a_y1 : (w.alloc (Obj.cells #[.int .i64 0, .slice none 0 0, .slice none 0 0, .int .i64 0, .int .i64 0, .slice none 0 0] 78)).cell? ⟨b, o + q * 6 + 1, none⟩ = some (.slice sa sl sc) := (hal.cell (p := ⟨b, o + q * 6 + 1, none⟩) (World.block_lt_of_cell? w _ y1)).trans y1
 have a_y2 : (w.alloc (Obj.cells #[.int .i64 0, .slice none 0 0, .slice none 0 0, .int .i64 0, .int .i64 0, .slice none 0 0] 78)).cell? ⟨b, o + q * 6 + 2, none⟩ = some (.slice fa fl fc) := (hal.cell (p := ⟨b, o + q * 6 + 2, none⟩) (World.block_lt_of_cell? w _ y2)).trans y2
 have a_y3 : (w.alloc (Obj.cells #[.int .i64 0, .slice none 0 0, .slice none 0 0, .int .i64 0, .int .i64 0, .slice none 0 0] 78)).cell? ⟨b, o + q * 6 + 3, none⟩ = some (.int .i64 rk) := (hal.cell (p := ⟨b, o + q * 6 + 3, none⟩) (World.block_lt_of_cell? w _ y3)).trans y3
 have a_y4 : (w.alloc (Obj.cells #[.int .i64 0, .slice none 0 0, .slice none 0 0, .int .i64 0, .int .i64 0, .slice none 0 0] 78)).cell? ⟨b, o + q * 6 + 4, none⟩ = some (.int .i64 rn) := (hal.cell (p := ⟨b, o + q * 6 + 4, none⟩) (World.block_lt_of_cell? w _ y4)).trans y4
 have a_y5 : (w.alloc (Obj.cells #[.int .i64 0, .slice none 0 0, .slice none 0 0, .int .i64 0, .int .i64 0, .slice none 0 0] 78)).cell? ⟨b, o + q * 6 + 5, none⟩ = some (.slice ra rl rc) := (hal.cell (p := ⟨b, o + q * 6 + 5, none⟩) (World.block_lt_of_cell? w _ y5)).trans y5
 clear hal
 go_region_law (fail)
 all_goals exact ⟨rfl, ⟨by rw [unhide HTL]; rfl, fun k hk => by rw [unhide HTL]; rcases (show k = 0 ∨ k = 1 ∨ k = 2 ∨ k = 3 ∨ k = 4 ∨ k = 5 ∨ k = 6 ∨ k = 7 ∨ k = 8 by omega) with rfl | rfl | rfl | rfl | rfl | rfl | rfl | rfl | rfl <;> rfl⟩, (by first | rfl | simp), rfl⟩
theorem ml_r12 {q b3 : Nat} {at_ mk : Int} (hT : T.size = 120) (s0 : T[0]? = some (.pointer (some ⟨bm, 0, none⟩))) (s3 : T[3]? = some (.pointer (some ⟨b3, 0, none⟩))) (s8 : T[8]? = some (.int .i64 at_)) {R : World → Prop} (x2 : w.cell? ⟨b3, 2, none⟩ = some (.int .i64 (q : Nat))) (h5 : w.cell? ⟨bm, 5, none⟩ = some (.int .i64 mk)) (hc : Calls Try.prog 77 #[.pointer (some ⟨bm, 0, none⟩), .int .i64 5, .int .i64 at_, .int .i64 (q : Nat), .int .i64 0, .int .i64 mk] w.drew fun r w' => r = .returned (.tuple #[]) ∧ R w')
  (hQ : ∀ T' w', (Fq.Kp 10 T T' ∧ R w') → Q .normal ⟨T', []⟩ w') : (Fq.reg Try.f78 12).wp Try.prog Q ⟨T, []⟩ w := by
 have HQ := hide hQ
 clear hQ
 conv => arg 2; whnf
 refine Fq.norm (fun T' w' => Fq.Kp 10 T T' ∧ R w') (fun T' w' h => (unhide HQ) T' w' h) ?_
 obtain ⟨t, ht⟩ : ∃ t : Nat → Value, t = fun i => T.getD i (.tuple #[]) := ⟨_, rfl⟩
 have hTl : T = #[t 0, t 1, t 2, t 3, t 4, t 5, t 6, t 7, t 8, t 9, t 10, t 11, t 12, t 13, t 14, t 15, t 16, t 17, t 18, t 19, t 20, t 21, t 22, t 23, t 24, t 25, t 26, t 27, t 28, t 29, t 30, t 31, t 32, t 33, t 34, t 35, t 36, t 37, t 38, t 39, t 40, t 41, t 42, t 43, t 44, t 45, t 46, t 47, t 48, t 49, t 50, t 51, t 52, t 53, t 54, t 55, t 56, t 57, t 58, t 59, t 60, t 61, t 62, t 63, t 64, t 65, t 66, t 67, t 68, t 69, t 70, t 71, t 72, t 73, t 74, t 75, t 76, t 77, t 78, t 79, t 80, t 81, t 82, t 83, t 84, t 85, t 86, t 87, t 88, t 89, t 90, t 91, t 92, t 93, t 94, t 95, t 96, t 97, t 98, t 99, t 100, t 101, t 102, t 103, t 104, t 105, t 106, t 107, t 108, t 109, t 110, t 111, t 112, t 113, t 114, t 115, t 116, t 117, t 118, t 119] := by rw [ht]; exact Fq.ls_is hT
 rw [(congrFun ht 0).trans (Fq.gd s0), (congrFun ht 3).trans (Fq.gd s3), (congrFun ht 8).trans (Fq.gd s8)] at hTl
 clear ht hT s0 s3 s8
 refine Fq.fr hTl ?_
 have HTL := hide hTl
 clear hTl
 have HC := hide hc
 clear hc
 go_region_law (go_simp; go_at_call 77; refine (unhide HC).mono ?_; rintro r6 w6 ⟨rfl, hb6⟩; have HB := hide hb6; clear hb6)
 all_goals exact ⟨rfl, ⟨by rw [unhide HTL]; rfl, fun k hk => by rw [unhide HTL]; rcases (show k = 0 ∨ k = 1 ∨ k = 2 ∨ k = 3 ∨ k = 4 ∨ k = 5 ∨ k = 6 ∨ k = 7 ∨ k = 8 ∨ k = 9 by omega) with rfl | rfl | rfl | rfl | rfl | rfl | rfl | rfl | rfl | rfl <;> rfl⟩, unhide HB⟩
end
end Go.Proofs.Ytcalcikclcmkaaa
namespace Go.Proofs.Ytcalcikclcmkaaa
open Go.RowKit
set_option linter.unusedVariables false
section
variable {T : Array Value} {w : World} {Q : Exit → Act → World → Prop} {bm g c : Nat}
theorem ml_r14 {b3 b9 b10 q ql qc fl fc a : Nat} {qa fa : Option Addr} (hT : T.size = 120) (s0 : T[0]? = some (.pointer (some ⟨bm, 0, none⟩))) (s3 : T[3]? = some (.pointer (some ⟨b3, 0, none⟩))) (s9 : T[9]? = some (.pointer (some ⟨b9, 0, none⟩))) (s10 : T[10]? = some (.pointer (some ⟨b10, 0, none⟩))) {R : World → Prop} (hF : ∀ V, Below w.heap.size w V → V.cell? ⟨b9, 2, none⟩ = some (.slice fa fl fc) ∧ V.cell? ⟨bm, 0, none⟩ = some (.slice qa ql qc) ∧ V.cell? ⟨b3, 2, none⟩ = some (.int .i64 (q : Nat))) (h1 : Calls Try.prog 40 #[.agg #[.slice qa ql qc], .int .i64 (q : Nat)] w.drew fun r w' => r = .returned (.int .i64 (a : Nat)) ∧ Below w.drew.heap.size w.drew w') (h2 : ∀ V, Below w.heap.size w V → Calls Try.prog 39 #[.pointer (some ⟨b10, 0, none⟩), .slice fa fl fc, .int .i64 (a : Nat)] V fun r w' => r = .returned (.tuple #[]) ∧ R w')
  (hQ : ∀ T' w', (Fq.Kp 12 T T' ∧ R w') → Q .normal ⟨T', []⟩ w') : (Fq.reg Try.f78 14).wp Try.prog Q ⟨T, []⟩ w := by
 have HQ := hide hQ
 clear hQ
 conv => arg 2; whnf
 refine Fq.norm (fun T' w' => Fq.Kp 12 T T' ∧ R w') (fun T' w' h => (unhide HQ) T' w' h) ?_
 obtain ⟨t, ht⟩ : ∃ t : Nat → Value, t = fun i => T.getD i (.tuple #[]) := ⟨_, rfl⟩
 have hTl : T = #[t 0, t 1, t 2, t 3, t 4, t 5, t 6, t 7, t 8, t 9, t 10, t 11, t 12, t 13, t 14, t 15, t 16, t 17, t 18, t 19, t 20, t 21, t 22, t 23, t 24, t 25, t 26, t 27, t 28, t 29, t 30, t 31, t 32, t 33, t 34, t 35, t 36, t 37, t 38, t 39, t 40, t 41, t 42, t 43, t 44, t 45, t 46, t 47, t 48, t 49, t 50, t 51, t 52, t 53, t 54, t 55, t 56, t 57, t 58, t 59, t 60, t 61, t 62, t 63, t 64, t 65, t 66, t 67, t 68, t 69, t 70, t 71, t 72, t 73, t 74, t 75, t 76, t 77, t 78, t 79, t 80, t 81, t 82, t 83, t 84, t 85, t 86, t 87, t 88, t 89, t 90, t 91, t 92, t 93, t 94, t 95, t 96, t 97, t 98, t 99, t 100, t 101, t 102, t 103, t 104, t 105, t 106, t 107, t 108, t 109, t 110, t 111, t 112, t 113, t 114, t 115, t 116, t 117, t 118, t 119] := by rw [ht]; exact Fq.ls_is hT
 rw [(congrFun ht 0).trans (Fq.gd s0), (congrFun ht 3).trans (Fq.gd s3), (congrFun ht 9).trans (Fq.gd s9), (congrFun ht 10).trans (Fq.gd s10)] at hTl
 clear ht hT s0 s3 s9 s10
 refine Fq.fr hTl ?_
 have HTL := hide hTl
 clear hTl
 have HF := hide hF
 have H1 := hide h1
 have H2 := hide h2
 obtain ⟨y0, y1, y2⟩ := hF w (Below.refl _ _)
 clear hF h1 h2
 go_region_law (first
  | (go_simp; go_at_call 40; refine (unhide H1).mono ?_; rintro r5 w5 ⟨rfl, hb5⟩; have HB5 := hide (show Below w.heap.size w w5 from ((Below.refl w.heap.size w).drew).trans (hb5.mono (Nat.le_refl _))); obtain ⟨z0, z1, z2⟩ := (unhide HF) _ (unhide HB5); clear hb5)
  | (go_simp; go_at_call 39; refine ((unhide H2) _ (unhide HB5)).mono ?_; rintro r6 w6 ⟨rfl, hb6⟩; have HB := hide hb6; clear hb6))
 all_goals exact ⟨rfl, ⟨by rw [unhide HTL]; rfl, fun k hk => by rw [unhide HTL]; rcases (show k = 0 ∨ k = 1 ∨ k = 2 ∨ k = 3 ∨ k = 4 ∨ k = 5 ∨ k = 6 ∨ k = 7 ∨ k = 8 ∨ k = 9 ∨ k = 10 ∨ k = 11 by omega) with rfl | rfl | rfl | rfl | rfl | rfl | rfl | rfl | rfl | rfl | rfl | rfl <;> rfl⟩, unhide HB⟩
end
end Go.Proofs.Ytcalcikclcmkaaa
