/-
  YPr, YPf, YProg. By the verifier.
-/
import Derived.Test.YtpfogjplnodacaaJC
set_option maxRecDepth 100000
set_option maxHeartbeats 3200000
namespace Go.Proofs.Ytpfogjplnodacaa
open Go.RowKit
set_option linter.unusedVariables false
section
variable {T : Array Value} {w : World} {Q : Exit → Act → World → Prop} {qa sa fa ra : Option Addr} {ql qc sl sc fl fc rl rc bp bx : Nat} {fp rk rn : Int}
theorem cp_r0 (hT : T.size = 140) (s0 : T[0]? = some (.agg #[.slice qa ql qc]))
  (hQ : ∀ T', (Fq.Kp 1 T T' ∧ T'[1]? = some (.pointer (some ⟨w.heap.size, 0, none⟩))) → Q .normal ⟨T', []⟩ (w.alloc (Obj.cells #[.slice qa ql qc] 29))) : (Fq.reg Try.f5 0).wp Try.prog Q ⟨T, []⟩ w := by
 have a0 := fun h => Fq.el s0 h
 have d0 := Fq.gd s0
 have hu : undef = Value.tuple #[] := rfl
 have HQ := hide hQ
 clear hQ
 conv => arg 2; whnf
 go_wp2_with fail
 exact (unhide HQ) _ ⟨(by (repeat (with_reducible refine Fq.Kp.set ?_ (by decide) _)); with_reducible exact Fq.Kp.refl _ _), by simp [hT]⟩
theorem cp_r1 (hT : T.size = 140) (s1 : T[1]? = some (.pointer (some ⟨bp, 0, none⟩))) (p0 : w.cell? ⟨bp, 0, none⟩ = some (.slice qa ql qc))
  (hQ : ∀ T', (Fq.Kp 3 T T' ∧ T'[3]? = some (.int .i64 (ql : Nat))) → Q .normal ⟨T', []⟩ (w)) : (Fq.reg Try.f5 1).wp Try.prog Q ⟨T, []⟩ w := by
 have a1 := fun h => Fq.el s1 h
 have d1 := Fq.gd s1
 have hu : undef = Value.tuple #[] := rfl
 have HQ := hide hQ
 clear hQ
 conv => arg 2; whnf
 go_wp2_with fail
 exact (unhide HQ) _ ⟨(by (repeat (with_reducible refine Fq.Kp.set ?_ (by decide) _)); with_reducible exact Fq.Kp.refl _ _), Fq.set_at _ (by simp [hT]) _⟩
theorem cp_r2 {VB : Bool} (hT : T.size = 140) (s3 : T[3]? = some (.int .i64 (ql : Nat)))  (hVB : VB = decide (ql = 0))
  (hQ : ∀ T', (Fq.Kp 12 T T' ∧ T'[16]? = some (.bool VB)) → Q .normal ⟨T', []⟩ (w)) : (Fq.reg Try.f5 2).wp Try.prog Q ⟨T, []⟩ w := by
 have a3 := fun h => Fq.el s3 h
 have d3 := Fq.gd s3
 have hu : undef = Value.tuple #[] := rfl
 have HQ := hide hQ
 clear hQ
 conv => arg 2; whnf
 by_cases hR : ql = 0
 · have HV3 := hide (show VB = true by rw [hVB, decide_eq_true hR] <;> rfl)
   subst hR
   clear hVB
   go_wp2_with fail
   exact (unhide HQ) _ ⟨(by (repeat (with_reducible refine Fq.Kp.set ?_ (by decide) _)); with_reducible exact Fq.Kp.refl _ _), (Fq.set_at _ (by simp [hT]) _).trans (by rw [unhide HV3] <;> rfl)⟩
 · have HV3 := hide (show VB = false by rw [hVB, decide_eq_false hR] <;> rfl)
   have b0 : (((ql : Nat) : Int) == 0) = false := by simp; exact hR
   clear hVB
   go_wp2_with fail
   exact (unhide HQ) _ ⟨(by (repeat (with_reducible refine Fq.Kp.set ?_ (by decide) _)); with_reducible exact Fq.Kp.refl _ _), (Fq.set_at _ (by simp [hT]) _).trans (by rw [unhide HV3] <;> rfl)⟩
theorem cp_r4 {VB : Bool} (hT : T.size = 140) (s3 : T[3]? = some (.int .i64 (ql : Nat)))  (hVB : VB = decide ((6 : Int) < (ql : Nat)))
  (hQ : ∀ T', (Fq.Kp 12 T T' ∧ T'[18]? = some (.bool VB)) → Q .normal ⟨T', []⟩ (w)) : (Fq.reg Try.f5 4).wp Try.prog Q ⟨T, []⟩ w := by
 have a3 := fun h => Fq.el s3 h
 have d3 := Fq.gd s3
 have hu : undef = Value.tuple #[] := rfl
 have HQ := hide hQ
 clear hQ
 conv => arg 2; whnf
 by_cases hR : (6 : Int) < (ql : Nat)
 · have HV3 := hide (show VB = true by rw [hVB, decide_eq_true hR] <;> rfl)
   skip
   clear hVB
   go_wp2_with fail
   exact (unhide HQ) _ ⟨(by (repeat (with_reducible refine Fq.Kp.set ?_ (by decide) _)); with_reducible exact Fq.Kp.refl _ _), (Fq.set_at _ (by simp [hT]) _).trans (by rw [unhide HV3] <;> rfl)⟩
 · have HV3 := hide (show VB = false by rw [hVB, decide_eq_false hR] <;> rfl)
   skip
   clear hVB
   go_wp2_with fail
   exact (unhide HQ) _ ⟨(by (repeat (with_reducible refine Fq.Kp.set ?_ (by decide) _)); with_reducible exact Fq.Kp.refl _ _), (Fq.set_at _ (by simp [hT]) _).trans (by rw [unhide HV3] <;> rfl)⟩
theorem cp_r3 (hT : T.size = 140)
  (hQ : ∀ T', (Fq.Kp 2 T T' ∧ T'[2]? = some (.int .i64 1)) → Q .normal ⟨T', []⟩ (w)) : (Fq.reg Try.f5 3).wp Try.prog Q ⟨T, []⟩ w := by
 have hu : undef = Value.tuple #[] := rfl
 have HQ := hide hQ
 clear hQ
 conv => arg 2; whnf
 go_wp2_with fail
 exact (unhide HQ) _ ⟨(by (repeat (with_reducible refine Fq.Kp.set ?_ (by decide) _)); with_reducible exact Fq.Kp.refl _ _), Fq.set_at _ (by simp [hT]) _⟩
theorem cp_r5 (hT : T.size = 140)
  (hQ : ∀ T', (Fq.Kp 2 T T' ∧ T'[2]? = some (.int .i64 2)) → Q .normal ⟨T', []⟩ (w)) : (Fq.reg Try.f5 5).wp Try.prog Q ⟨T, []⟩ w := by
 have hu : undef = Value.tuple #[] := rfl
 have HQ := hide hQ
 clear hQ
 conv => arg 2; whnf
 go_wp2_with fail
 exact (unhide HQ) _ ⟨(by (repeat (with_reducible refine Fq.Kp.set ?_ (by decide) _)); with_reducible exact Fq.Kp.refl _ _), Fq.set_at _ (by simp [hT]) _⟩
theorem cp_r12 (hT : T.size = 140)
  (hQ : ∀ T', (Fq.Kp 2 T T' ∧ T'[2]? = some (.int .i64 2)) → Q .normal ⟨T', []⟩ (w)) : (Fq.reg Try.f5 12).wp Try.prog Q ⟨T, []⟩ w := by
 have hu : undef = Value.tuple #[] := rfl
 have HQ := hide hQ
 clear hQ
 conv => arg 2; whnf
 go_wp2_with fail
 exact (unhide HQ) _ ⟨(by (repeat (with_reducible refine Fq.Kp.set ?_ (by decide) _)); with_reducible exact Fq.Kp.refl _ _), Fq.set_at _ (by simp [hT]) _⟩
theorem cp_r18 (hT : T.size = 140)
  (hQ : ∀ T', (Fq.Kp 2 T T' ∧ T'[2]? = some (.int .i64 3)) → Q .normal ⟨T', []⟩ (w)) : (Fq.reg Try.f5 18).wp Try.prog Q ⟨T, []⟩ w := by
 have hu : undef = Value.tuple #[] := rfl
 have HQ := hide hQ
 clear hQ
 conv => arg 2; whnf
 go_wp2_with fail
 exact (unhide HQ) _ ⟨(by (repeat (with_reducible refine Fq.Kp.set ?_ (by decide) _)); with_reducible exact Fq.Kp.refl _ _), Fq.set_at _ (by simp [hT]) _⟩
theorem cp_r20 (hT : T.size = 140)
  (hQ : ∀ T', (Fq.Kp 2 T T' ∧ T'[2]? = some (.int .i64 2)) → Q .normal ⟨T', []⟩ (w)) : (Fq.reg Try.f5 20).wp Try.prog Q ⟨T, []⟩ w := by
 have hu : undef = Value.tuple #[] := rfl
 have HQ := hide hQ
 clear hQ
 conv => arg 2; whnf
 go_wp2_with fail
 exact (unhide HQ) _ ⟨(by (repeat (with_reducible refine Fq.Kp.set ?_ (by decide) _)); with_reducible exact Fq.Kp.refl _ _), Fq.set_at _ (by simp [hT]) _⟩
theorem cp_r25 (hT : T.size = 140)
  (hQ : ∀ T', (Fq.Kp 2 T T' ∧ T'[2]? = some (.int .i64 3)) → Q .normal ⟨T', []⟩ (w)) : (Fq.reg Try.f5 25).wp Try.prog Q ⟨T, []⟩ w := by
 have hu : undef = Value.tuple #[] := rfl
 have HQ := hide hQ
 clear hQ
 conv => arg 2; whnf
 go_wp2_with fail
 exact (unhide HQ) _ ⟨(by (repeat (with_reducible refine Fq.Kp.set ?_ (by decide) _)); with_reducible exact Fq.Kp.refl _ _), Fq.set_at _ (by simp [hT]) _⟩
theorem cp_r30 (hT : T.size = 140)
  (hQ : ∀ T', (Fq.Kp 2 T T' ∧ T'[2]? = some (.int .i64 1)) → Q .normal ⟨T', []⟩ (w)) : (Fq.reg Try.f5 30).wp Try.prog Q ⟨T, []⟩ w := by
 have hu : undef = Value.tuple #[] := rfl
 have HQ := hide hQ
 clear hQ
 conv => arg 2; whnf
 go_wp2_with fail
 exact (unhide HQ) _ ⟨(by (repeat (with_reducible refine Fq.Kp.set ?_ (by decide) _)); with_reducible exact Fq.Kp.refl _ _), Fq.set_at _ (by simp [hT]) _⟩
theorem cp_r35 (hT : T.size = 140)
  (hQ : ∀ T', (Fq.Kp 2 T T' ∧ T'[2]? = some (.int .i64 1)) → Q .normal ⟨T', []⟩ (w)) : (Fq.reg Try.f5 35).wp Try.prog Q ⟨T, []⟩ w := by
 have hu : undef = Value.tuple #[] := rfl
 have HQ := hide hQ
 clear hQ
 conv => arg 2; whnf
 go_wp2_with fail
 exact (unhide HQ) _ ⟨(by (repeat (with_reducible refine Fq.Kp.set ?_ (by decide) _)); with_reducible exact Fq.Kp.refl _ _), Fq.set_at _ (by simp [hT]) _⟩
theorem cp_r43 (hT : T.size = 140)
  (hQ : ∀ T', (Fq.Kp 2 T T' ∧ T'[2]? = some (.int .i64 0)) → Q .normal ⟨T', []⟩ (w)) : (Fq.reg Try.f5 43).wp Try.prog Q ⟨T, []⟩ w := by
 have hu : undef = Value.tuple #[] := rfl
 have HQ := hide hQ
 clear hQ
 conv => arg 2; whnf
 go_wp2_with fail
 exact (unhide HQ) _ ⟨(by (repeat (with_reducible refine Fq.Kp.set ?_ (by decide) _)); with_reducible exact Fq.Kp.refl _ _), Fq.set_at _ (by simp [hT]) _⟩
theorem cp_r6 (hT : T.size = 140)
  (hQ : ∀ T', (Fq.Kp 4 T T' ∧ T'[4]? = some (.int .i64 0)) → Q .normal ⟨T', []⟩ (w)) : (Fq.reg Try.f5 6).wp Try.prog Q ⟨T, []⟩ w := by
 have hu : undef = Value.tuple #[] := rfl
 have HQ := hide hQ
 clear hQ
 conv => arg 2; whnf
 go_wp2_with fail
 exact (unhide HQ) _ ⟨(by (repeat (with_reducible refine Fq.Kp.set ?_ (by decide) _)); with_reducible exact Fq.Kp.refl _ _), Fq.set_at _ (by simp [hT]) _⟩
theorem cp_r7 (hT : T.size = 140)
  (hQ : ∀ T', (Fq.Kp 5 T T' ∧ T'[5]? = some (.int .i64 0)) → Q .normal ⟨T', []⟩ (w)) : (Fq.reg Try.f5 7).wp Try.prog Q ⟨T, []⟩ w := by
 have hu : undef = Value.tuple #[] := rfl
 have HQ := hide hQ
 clear hQ
 conv => arg 2; whnf
 go_wp2_with fail
 exact (unhide HQ) _ ⟨(by (repeat (with_reducible refine Fq.Kp.set ?_ (by decide) _)); with_reducible exact Fq.Kp.refl _ _), Fq.set_at _ (by simp [hT]) _⟩
theorem cp_r8 {i : Nat} {VB : Bool} (hT : T.size = 140) (s3 : T[3]? = some (.int .i64 (ql : Nat))) (s5 : T[5]? = some (.int .i64 (i : Nat)))  (hVB : VB = decide ((i : Int) < (ql : Nat)))
  (hQ : ∀ T', (Fq.Kp 12 T T' ∧ T'[21]? = some (.bool VB)) → Q .normal ⟨T', []⟩ (w)) : (Fq.reg Try.f5 8).wp Try.prog Q ⟨T, []⟩ w := by
 have a3 := fun h => Fq.el s3 h
 have d3 := Fq.gd s3
 have a5 := fun h => Fq.el s5 h
 have d5 := Fq.gd s5
 have hu : undef = Value.tuple #[] := rfl
 have HQ := hide hQ
 clear hQ
 conv => arg 2; whnf
 by_cases hR : (i : Int) < (ql : Nat)
 · have HV3 := hide (show VB = true by rw [hVB, decide_eq_true hR] <;> rfl)
   skip
   clear hVB
   go_wp2_with fail
   exact (unhide HQ) _ ⟨(by (repeat (with_reducible refine Fq.Kp.set ?_ (by decide) _)); with_reducible exact Fq.Kp.refl _ _), (Fq.set_at _ (by simp [hT]) _).trans (by rw [unhide HV3] <;> rfl)⟩
 · have HV3 := hide (show VB = false by rw [hVB, decide_eq_false hR] <;> rfl)
   skip
   clear hVB
   go_wp2_with fail
   exact (unhide HQ) _ ⟨(by (repeat (with_reducible refine Fq.Kp.set ?_ (by decide) _)); with_reducible exact Fq.Kp.refl _ _), (Fq.set_at _ (by simp [hT]) _).trans (by rw [unhide HV3] <;> rfl)⟩
theorem cp_r10 {i k b o CA : Nat} (hT : T.size = 140) (s1 : T[1]? = some (.pointer (some ⟨bp, 0, none⟩))) (s4 : T[4]? = some (.int .i64 (k : Nat))) (s5 : T[5]? = some (.int .i64 (i : Nat))) (p0 : w.cell? ⟨bp, 0, none⟩ = some (.slice (some ⟨b, o, none⟩) ql qc)) (hi : i < ql) (hql : ql ≤ 35184372088832) (g2 : w.cell? ⟨b, o + i * 6 + 2, none⟩ = some (.slice fa fl fc)) (hk : k ≤ 10000) (hca : CA ≤ 41) (hc : Calls Try.prog 11 #[.slice fa fl fc, .int .i64 1] w fun r w' => r = .returned (.int .i64 (CA : Nat)) ∧ Below w.heap.size w w')
  (hQ : ∀ T' w', (Fq.Kp 4 T T' ∧ T'[4]? = some (.int .i64 ((k + CA : Nat) : Int)) ∧ T'[5]? = some (.int .i64 (i : Nat)) ∧ Below w.heap.size w w') → Q .normal ⟨T', []⟩ w') : (Fq.reg Try.f5 10).wp Try.prog Q ⟨T, []⟩ w := by
 have a1 := fun h => Fq.el s1 h
 have d1 := Fq.gd s1
 have a4 := fun h => Fq.el s4 h
 have d4 := Fq.gd s4
 have a5 := fun h => Fq.el s5 h
 have d5 := Fq.gd s5
 have hu : undef = Value.tuple #[] := rfl
 have HQ := hide hQ
 clear hQ
 conv => arg 2; whnf
 have HC := hide hc
 have hi0 : (0 : Int) ≤ (i : Int) := by omega
 have hi1 : (i : Int) < (ql : Int) := by omega
 have hw0 : IntKind.i64.wrap ((k : Int) + (CA : Int)) = (k : Int) + (CA : Int) := Xr.wrap_id (by omega) (by omega)
 clear hc
 go_wp2_with (with_reducible refine (Calls.mono (unhide HC) ?_); rintro r w2 ⟨rfl, hb2⟩; have HB := hide hb2; clear hb2)
 exact (unhide HQ) _ _ ⟨(by (repeat (with_reducible refine Fq.Kp.set ?_ (by decide) _)); with_reducible exact Fq.Kp.refl _ _), (Fq.set_at _ (by simp [hT]) _).trans (congrArg some (by go_num)), (by (repeat (with_reducible refine (Fq.set_ne _ (by decide) _).trans ?_)); exact s5), unhide HB⟩
theorem cp_r9 {i : Nat} (hT : T.size = 140) (s5 : T[5]? = some (.int .i64 (i : Nat))) (hi : i ≤ 35184372088832)
  (hQ : ∀ T', (Fq.Kp 5 T T' ∧ T'[5]? = some (.int .i64 ((i + 1 : Nat) : Int))) → Q .normal ⟨T', []⟩ (w)) : (Fq.reg Try.f5 9).wp Try.prog Q ⟨T, []⟩ w := by
 have a5 := fun h => Fq.el s5 h
 have d5 := Fq.gd s5
 have hu : undef = Value.tuple #[] := rfl
 have HQ := hide hQ
 clear hQ
 conv => arg 2; whnf
 go_wp2_with fail
 exact (unhide HQ) _ ⟨(by (repeat (with_reducible refine Fq.Kp.set ?_ (by decide) _)); with_reducible exact Fq.Kp.refl _ _), (Fq.set_at _ (by simp [hT]) _).trans (congrArg some (by go_num))⟩
theorem cp_r11 {k : Nat} {VB : Bool} (hT : T.size = 140) (s4 : T[4]? = some (.int .i64 (k : Nat)))  (hVB : VB = decide ((40 : Int) < (k : Nat)))
  (hQ : ∀ T', (Fq.Kp 12 T T' ∧ T'[34]? = some (.bool VB)) → Q .normal ⟨T', []⟩ (w)) : (Fq.reg Try.f5 11).wp Try.prog Q ⟨T, []⟩ w := by
 have a4 := fun h => Fq.el s4 h
 have d4 := Fq.gd s4
 have hu : undef = Value.tuple #[] := rfl
 have HQ := hide hQ
 clear hQ
 conv => arg 2; whnf
 by_cases hR : (40 : Int) < (k : Nat)
 · have HV3 := hide (show VB = true by rw [hVB, decide_eq_true hR] <;> rfl)
   skip
   clear hVB
   go_wp2_with fail
   exact (unhide HQ) _ ⟨(by (repeat (with_reducible refine Fq.Kp.set ?_ (by decide) _)); with_reducible exact Fq.Kp.refl _ _), (Fq.set_at _ (by simp [hT]) _).trans (by rw [unhide HV3] <;> rfl)⟩
 · have HV3 := hide (show VB = false by rw [hVB, decide_eq_false hR] <;> rfl)
   skip
   clear hVB
   go_wp2_with fail
   exact (unhide HQ) _ ⟨(by (repeat (with_reducible refine Fq.Kp.set ?_ (by decide) _)); with_reducible exact Fq.Kp.refl _ _), (Fq.set_at _ (by simp [hT]) _).trans (by rw [unhide HV3] <;> rfl)⟩
theorem cp_r13 (hT : T.size = 140)
  (hQ : ∀ T', (Fq.Kp 6 T T' ∧ T'[6]? = some (.int .i64 0)) → Q .normal ⟨T', []⟩ (w)) : (Fq.reg Try.f5 13).wp Try.prog Q ⟨T, []⟩ w := by
 have hu : undef = Value.tuple #[] := rfl
 have HQ := hide hQ
 clear hQ
 conv => arg 2; whnf
 go_wp2_with fail
 exact (unhide HQ) _ ⟨(by (repeat (with_reducible refine Fq.Kp.set ?_ (by decide) _)); with_reducible exact Fq.Kp.refl _ _), Fq.set_at _ (by simp [hT]) _⟩
theorem cp_r14 {i : Nat} {VB : Bool} (hT : T.size = 140) (s3 : T[3]? = some (.int .i64 (ql : Nat))) (s6 : T[6]? = some (.int .i64 (i : Nat)))  (hVB : VB = decide ((i : Int) < (ql : Nat)))
  (hQ : ∀ T', (Fq.Kp 12 T T' ∧ T'[37]? = some (.bool VB)) → Q .normal ⟨T', []⟩ (w)) : (Fq.reg Try.f5 14).wp Try.prog Q ⟨T, []⟩ w := by
 have a3 := fun h => Fq.el s3 h
 have d3 := Fq.gd s3
 have a6 := fun h => Fq.el s6 h
 have d6 := Fq.gd s6
 have hu : undef = Value.tuple #[] := rfl
 have HQ := hide hQ
 clear hQ
 conv => arg 2; whnf
 by_cases hR : (i : Int) < (ql : Nat)
 · have HV3 := hide (show VB = true by rw [hVB, decide_eq_true hR] <;> rfl)
   skip
   clear hVB
   go_wp2_with fail
   exact (unhide HQ) _ ⟨(by (repeat (with_reducible refine Fq.Kp.set ?_ (by decide) _)); with_reducible exact Fq.Kp.refl _ _), (Fq.set_at _ (by simp [hT]) _).trans (by rw [unhide HV3] <;> rfl)⟩
 · have HV3 := hide (show VB = false by rw [hVB, decide_eq_false hR] <;> rfl)
   skip
   clear hVB
   go_wp2_with fail
   exact (unhide HQ) _ ⟨(by (repeat (with_reducible refine Fq.Kp.set ?_ (by decide) _)); with_reducible exact Fq.Kp.refl _ _), (Fq.set_at _ (by simp [hT]) _).trans (by rw [unhide HV3] <;> rfl)⟩
theorem cp_r15 {i : Nat} (hT : T.size = 140) (s6 : T[6]? = some (.int .i64 (i : Nat))) (hi : i ≤ 35184372088832)
  (hQ : ∀ T', (Fq.Kp 6 T T' ∧ T'[6]? = some (.int .i64 ((i + 1 : Nat) : Int))) → Q .normal ⟨T', []⟩ (w)) : (Fq.reg Try.f5 15).wp Try.prog Q ⟨T, []⟩ w := by
 have a6 := fun h => Fq.el s6 h
 have d6 := Fq.gd s6
 have hu : undef = Value.tuple #[] := rfl
 have HQ := hide hQ
 clear hQ
 conv => arg 2; whnf
 go_wp2_with fail
 exact (unhide HQ) _ ⟨(by (repeat (with_reducible refine Fq.Kp.set ?_ (by decide) _)); with_reducible exact Fq.Kp.refl _ _), (Fq.set_at _ (by simp [hT]) _).trans (congrArg some (by go_num))⟩
theorem cp_r16 {i b o : Nat} (hT : T.size = 140) (s1 : T[1]? = some (.pointer (some ⟨bp, 0, none⟩))) (s6 : T[6]? = some (.int .i64 (i : Nat))) (p0 : w.cell? ⟨bp, 0, none⟩ = some (.slice (some ⟨b, o, none⟩) ql qc)) (hi : i < ql) (hql : ql ≤ 35184372088832) (e0 : w.cell? ⟨b, o + i * 6, none⟩ = some (.int .i64 fp)) (e1 : w.cell? ⟨b, o + i * 6 + 1, none⟩ = some (.slice sa sl sc)) (e2 : w.cell? ⟨b, o + i * 6 + 2, none⟩ = some (.slice fa fl fc)) (e3 : w.cell? ⟨b, o + i * 6 + 3, none⟩ = some (.int .i64 rk)) (e4 : w.cell? ⟨b, o + i * 6 + 4, none⟩ = some (.int .i64 rn)) (e5 : w.cell? ⟨b, o + i * 6 + 5, none⟩ = some (.slice ra rl rc))
  (hQ : ∀ T', (Fq.Kp 7 T T' ∧ T'[7]? = some (.pointer (some ⟨w.heap.size, 0, none⟩))) → Q .normal ⟨T', []⟩ (w.alloc (Obj.cells #[.int .i64 fp, .slice sa sl sc, .slice fa fl fc, .int .i64 rk, .int .i64 rn, .slice ra rl rc] 44))) : (Fq.reg Try.f5 16).wp Try.prog Q ⟨T, []⟩ w := by
 have a1 := fun h => Fq.el s1 h
 have d1 := Fq.gd s1
 have a6 := fun h => Fq.el s6 h
 have d6 := Fq.gd s6
 have hu : undef = Value.tuple #[] := rfl
 have HQ := hide hQ
 clear hQ
 conv => arg 2; whnf
 have hi0 : (0 : Int) ≤ (i : Int) := by omega
 have hi1 : (i : Int) < (ql : Int) := by omega
 go_wp2_with fail
 exact (unhide HQ) _ ⟨(by (repeat (with_reducible refine Fq.Kp.set ?_ (by decide) _)); with_reducible exact Fq.Kp.refl _ _), Fq.set_at _ (by simp [hT]) _⟩
theorem cp_r17 {VB : Bool} (hT : T.size = 140) (s7 : T[7]? = some (.pointer (some ⟨bx, 0, none⟩))) (f0 : w.cell? ⟨bx, 0, none⟩ = some (.int .i64 fp)) (f1 : w.cell? ⟨bx, 1, none⟩ = some (.slice sa sl sc)) (hsl : sl ≤ 35184372088832) (hVB : VB = decide (fp < 0 ∨ (sl : Int) < fp))
  (hQ : ∀ T', (Fq.Kp 12 T T' ∧ T'[55]? = some (.bool VB)) → Q .normal ⟨T', []⟩ (w)) : (Fq.reg Try.f5 17).wp Try.prog Q ⟨T, []⟩ w := by
 have a7 := fun h => Fq.el s7 h
 have d7 := Fq.gd s7
 have hu : undef = Value.tuple #[] := rfl
 have HQ := hide hQ
 clear hQ
 conv => arg 2; whnf
 by_cases h1 : fp < 0
 · have HV3 := hide (show VB = true by rw [hVB, decide_eq_true (Or.inl h1)])
   clear hVB
   go_wp2_with fail
   exact (unhide HQ) _ ⟨(by (repeat (with_reducible refine Fq.Kp.set ?_ (by decide) _)); with_reducible exact Fq.Kp.refl _ _), (Fq.set_at _ (by simp [hT]) _).trans (by rw [unhide HV3] <;> rfl)⟩
 · by_cases h2 : (sl : Int) < fp
   · have HV3 := hide (show VB = true by rw [hVB, decide_eq_true (Or.inr h2)])
     clear hVB
     go_wp2_with fail
     exact (unhide HQ) _ ⟨(by (repeat (with_reducible refine Fq.Kp.set ?_ (by decide) _)); with_reducible exact Fq.Kp.refl _ _), (Fq.set_at _ (by simp [hT]) _).trans (by rw [unhide HV3] <;> rfl)⟩
   · have HV3 := hide (show VB = false by rw [hVB, decide_eq_false (by omega)])
     clear hVB
     go_wp2_with fail
     exact (unhide HQ) _ ⟨(by (repeat (with_reducible refine Fq.Kp.set ?_ (by decide) _)); with_reducible exact Fq.Kp.refl _ _), (Fq.set_at _ (by simp [hT]) _).trans (by rw [unhide HV3] <;> rfl)⟩
theorem cp_r19 {VB : Bool} (hT : T.size = 140) (s7 : T[7]? = some (.pointer (some ⟨bx, 0, none⟩))) (f0 : w.cell? ⟨bx, 0, none⟩ = some (.int .i64 fp)) (f1 : w.cell? ⟨bx, 1, none⟩ = some (.slice sa sl sc)) (hsl : sl ≤ 35184372088832) (h0 : 0 ≤ fp) (hVB : VB = decide (3 < fp ∨ 6 < (sl : Int) - fp))
  (hQ : ∀ T', (Fq.Kp 12 T T' ∧ T'[67]? = some (.bool VB)) → Q .normal ⟨T', []⟩ (w)) : (Fq.reg Try.f5 19).wp Try.prog Q ⟨T, []⟩ w := by
 have a7 := fun h => Fq.el s7 h
 have d7 := Fq.gd s7
 have hu : undef = Value.tuple #[] := rfl
 have HQ := hide hQ
 clear hQ
 conv => arg 2; whnf
 by_cases h1 : 3 < fp
 · have HV3 := hide (show VB = true by rw [hVB, decide_eq_true (Or.inl h1)])
   clear hVB
   go_wp2_with fail
   exact (unhide HQ) _ ⟨(by (repeat (with_reducible refine Fq.Kp.set ?_ (by decide) _)); with_reducible exact Fq.Kp.refl _ _), (Fq.set_at _ (by simp [hT]) _).trans (by rw [unhide HV3] <;> rfl)⟩
 · have hw0 : IntKind.i64.wrap ((sl : Int) - fp) = (sl : Int) - fp := by rw [IntKind.wrap_i64]; omega
   by_cases h2 : 6 < (sl : Int) - fp
   · have HV3 := hide (show VB = true by rw [hVB, decide_eq_true (Or.inr h2)])
     clear hVB
     go_wp2_with fail
     exact (unhide HQ) _ ⟨(by (repeat (with_reducible refine Fq.Kp.set ?_ (by decide) _)); with_reducible exact Fq.Kp.refl _ _), (Fq.set_at _ (by simp [hT]) _).trans (by rw [unhide HV3] <;> rfl)⟩
   · have HV3 := hide (show VB = false by rw [hVB, decide_eq_false (by omega)])
     clear hVB
     go_wp2_with fail
     exact (unhide HQ) _ ⟨(by (repeat (with_reducible refine Fq.Kp.set ?_ (by decide) _)); with_reducible exact Fq.Kp.refl _ _), (Fq.set_at _ (by simp [hT]) _).trans (by rw [unhide HV3] <;> rfl)⟩
theorem cp_r21 (hT : T.size = 140)
  (hQ : ∀ T', (Fq.Kp 8 T T' ∧ T'[8]? = some (.int .i64 0)) → Q .normal ⟨T', []⟩ (w)) : (Fq.reg Try.f5 21).wp Try.prog Q ⟨T, []⟩ w := by
 have hu : undef = Value.tuple #[] := rfl
 have HQ := hide hQ
 clear hQ
 conv => arg 2; whnf
 go_wp2_with fail
 exact (unhide HQ) _ ⟨(by (repeat (with_reducible refine Fq.Kp.set ?_ (by decide) _)); with_reducible exact Fq.Kp.refl _ _), Fq.set_at _ (by simp [hT]) _⟩
theorem cp_r22 {k : Nat} {VB : Bool} (hT : T.size = 140) (s7 : T[7]? = some (.pointer (some ⟨bx, 0, none⟩))) (s8 : T[8]? = some (.int .i64 (k : Nat))) (f1 : w.cell? ⟨bx, 1, none⟩ = some (.slice sa sl sc)) (hsl : sl ≤ 35184372088832) (hVB : VB = decide ((k : Int) < (sl : Nat)))
  (hQ : ∀ T', (Fq.Kp 12 T T' ∧ T'[72]? = some (.bool VB)) → Q .normal ⟨T', []⟩ (w)) : (Fq.reg Try.f5 22).wp Try.prog Q ⟨T, []⟩ w := by
 have a7 := fun h => Fq.el s7 h
 have d7 := Fq.gd s7
 have a8 := fun h => Fq.el s8 h
 have d8 := Fq.gd s8
 have hu : undef = Value.tuple #[] := rfl
 have HQ := hide hQ
 clear hQ
 conv => arg 2; whnf
 by_cases hR : (k : Int) < (sl : Nat)
 · have HV3 := hide (show VB = true by rw [hVB, decide_eq_true hR] <;> rfl)
   skip
   clear hVB
   go_wp2_with fail
   exact (unhide HQ) _ ⟨(by (repeat (with_reducible refine Fq.Kp.set ?_ (by decide) _)); with_reducible exact Fq.Kp.refl _ _), (Fq.set_at _ (by simp [hT]) _).trans (by rw [unhide HV3] <;> rfl)⟩
 · have HV3 := hide (show VB = false by rw [hVB, decide_eq_false hR] <;> rfl)
   skip
   clear hVB
   go_wp2_with fail
   exact (unhide HQ) _ ⟨(by (repeat (with_reducible refine Fq.Kp.set ?_ (by decide) _)); with_reducible exact Fq.Kp.refl _ _), (Fq.set_at _ (by simp [hT]) _).trans (by rw [unhide HV3] <;> rfl)⟩
theorem cp_r23 {k : Nat} (hT : T.size = 140) (s8 : T[8]? = some (.int .i64 (k : Nat))) (hi : k ≤ 35184372088832)
  (hQ : ∀ T', (Fq.Kp 8 T T' ∧ T'[8]? = some (.int .i64 ((k + 1 : Nat) : Int))) → Q .normal ⟨T', []⟩ (w)) : (Fq.reg Try.f5 23).wp Try.prog Q ⟨T, []⟩ w := by
 have a8 := fun h => Fq.el s8 h
 have d8 := Fq.gd s8
 have hu : undef = Value.tuple #[] := rfl
 have HQ := hide hQ
 clear hQ
 conv => arg 2; whnf
 go_wp2_with fail
 exact (unhide HQ) _ ⟨(by (repeat (with_reducible refine Fq.Kp.set ?_ (by decide) _)); with_reducible exact Fq.Kp.refl _ _), (Fq.set_at _ (by simp [hT]) _).trans (congrArg some (by go_num))⟩
theorem cp_r24 {k b o : Nat} {z : Int} {VB : Bool} (hT : T.size = 140) (s7 : T[7]? = some (.pointer (some ⟨bx, 0, none⟩))) (s8 : T[8]? = some (.int .i64 (k : Nat))) (f1 : w.cell? ⟨bx, 1, none⟩ = some (.slice (some ⟨b, o, none⟩) sl sc)) (hk : k < sl) (hsl : sl ≤ 35184372088832) (hz : w.cell? ⟨b, o + k, none⟩ = some (.int .i64 z)) (hVB : decide (0 ≤ z ∧ z ≤ 8) = VB)
  (hQ : ∀ T', (Fq.Kp 12 T T' ∧ T'[81]? = some (.bool (!VB))) → Q .normal ⟨T', []⟩ (w)) : (Fq.reg Try.f5 24).wp Try.prog Q ⟨T, []⟩ w := by
 have a7 := fun h => Fq.el s7 h
 have d7 := Fq.gd s7
 have a8 := fun h => Fq.el s8 h
 have d8 := Fq.gd s8
 have hu : undef = Value.tuple #[] := rfl
 have HQ := hide hQ
 clear hQ
 conv => arg 2; whnf
 have H1 := hide (between_any z 0 8 w)
 rw [hVB] at H1
 have hi0 : (0 : Int) ≤ (k : Int) := by omega
 have hi1 : (k : Int) < (sl : Int) := by omega
 clear hVB
 go_wp2_with (with_reducible refine (Calls.mono (unhide H1) ?_); rintro r w2 ⟨rfl, hw2⟩; have hw3 := hw2.symm; clear hw2; subst hw3)
 exact (unhide HQ) _ ⟨(by (repeat (with_reducible refine Fq.Kp.set ?_ (by decide) _)); with_reducible exact Fq.Kp.refl _ _), Fq.set_at _ (by simp [hT]) _⟩
theorem cp_r26 (hT : T.size = 140)
  (hQ : ∀ T', (Fq.Kp 9 T T' ∧ T'[9]? = some (.int .i64 0)) → Q .normal ⟨T', []⟩ (w)) : (Fq.reg Try.f5 26).wp Try.prog Q ⟨T, []⟩ w := by
 have hu : undef = Value.tuple #[] := rfl
 have HQ := hide hQ
 clear hQ
 conv => arg 2; whnf
 go_wp2_with fail
 exact (unhide HQ) _ ⟨(by (repeat (with_reducible refine Fq.Kp.set ?_ (by decide) _)); with_reducible exact Fq.Kp.refl _ _), Fq.set_at _ (by simp [hT]) _⟩
theorem cp_r27 {k : Nat} {VB : Bool} (hT : T.size = 140) (s7 : T[7]? = some (.pointer (some ⟨bx, 0, none⟩))) (s9 : T[9]? = some (.int .i64 (k : Nat))) (f0 : w.cell? ⟨bx, 0, none⟩ = some (.int .i64 fp)) (hVB : VB = decide ((k : Int) < fp))
  (hQ : ∀ T', (Fq.Kp 12 T T' ∧ T'[85]? = some (.bool VB)) → Q .normal ⟨T', []⟩ (w)) : (Fq.reg Try.f5 27).wp Try.prog Q ⟨T, []⟩ w := by
 have a7 := fun h => Fq.el s7 h
 have d7 := Fq.gd s7
 have a9 := fun h => Fq.el s9 h
 have d9 := Fq.gd s9
 have hu : undef = Value.tuple #[] := rfl
 have HQ := hide hQ
 clear hQ
 conv => arg 2; whnf
 by_cases hR : (k : Int) < fp
 · have HV3 := hide (show VB = true by rw [hVB, decide_eq_true hR] <;> rfl)
   skip
   clear hVB
   go_wp2_with fail
   exact (unhide HQ) _ ⟨(by (repeat (with_reducible refine Fq.Kp.set ?_ (by decide) _)); with_reducible exact Fq.Kp.refl _ _), (Fq.set_at _ (by simp [hT]) _).trans (by rw [unhide HV3] <;> rfl)⟩
 · have HV3 := hide (show VB = false by rw [hVB, decide_eq_false hR] <;> rfl)
   skip
   clear hVB
   go_wp2_with fail
   exact (unhide HQ) _ ⟨(by (repeat (with_reducible refine Fq.Kp.set ?_ (by decide) _)); with_reducible exact Fq.Kp.refl _ _), (Fq.set_at _ (by simp [hT]) _).trans (by rw [unhide HV3] <;> rfl)⟩
theorem cp_r28 {k : Nat} (hT : T.size = 140) (s9 : T[9]? = some (.int .i64 (k : Nat))) (hi : k ≤ 35184372088832)
  (hQ : ∀ T', (Fq.Kp 9 T T' ∧ T'[9]? = some (.int .i64 ((k + 1 : Nat) : Int))) → Q .normal ⟨T', []⟩ (w)) : (Fq.reg Try.f5 28).wp Try.prog Q ⟨T, []⟩ w := by
 have a9 := fun h => Fq.el s9 h
 have d9 := Fq.gd s9
 have hu : undef = Value.tuple #[] := rfl
 have HQ := hide hQ
 clear hQ
 conv => arg 2; whnf
 go_wp2_with fail
 exact (unhide HQ) _ ⟨(by (repeat (with_reducible refine Fq.Kp.set ?_ (by decide) _)); with_reducible exact Fq.Kp.refl _ _), (Fq.set_at _ (by simp [hT]) _).trans (congrArg some (by go_num))⟩
theorem cp_r29 {k b o : Nat} {z : Int} {VB : Bool} (hT : T.size = 140) (s7 : T[7]? = some (.pointer (some ⟨bx, 0, none⟩))) (s9 : T[9]? = some (.int .i64 (k : Nat))) (f1 : w.cell? ⟨bx, 1, none⟩ = some (.slice (some ⟨b, o, none⟩) sl sc)) (hk : k < sl) (hsl : sl ≤ 35184372088832) (hz : w.cell? ⟨b, o + k, none⟩ = some (.int .i64 z)) (hVB : VB = decide (z ≠ 0))
  (hQ : ∀ T', (Fq.Kp 12 T T' ∧ T'[93]? = some (.bool VB)) → Q .normal ⟨T', []⟩ (w)) : (Fq.reg Try.f5 29).wp Try.prog Q ⟨T, []⟩ w := by
 have a7 := fun h => Fq.el s7 h
 have d7 := Fq.gd s7
 have a9 := fun h => Fq.el s9 h
 have d9 := Fq.gd s9
 have hu : undef = Value.tuple #[] := rfl
 have HQ := hide hQ
 clear hQ
 conv => arg 2; whnf
 have hi0 : (0 : Int) ≤ (k : Int) := by omega
 have hi1 : (k : Int) < (sl : Int) := by omega
 by_cases hR : z = 0
 · have HV3 := hide (show VB = false by rw [hVB, decide_eq_false (fun h => h hR)])
   subst hR
   clear hVB
   go_wp2_with fail
   exact (unhide HQ) _ ⟨(by (repeat (with_reducible refine Fq.Kp.set ?_ (by decide) _)); with_reducible exact Fq.Kp.refl _ _), (Fq.set_at _ (by simp [hT]) _).trans (by rw [unhide HV3] <;> rfl)⟩
 · have HV3 := hide (show VB = true by rw [hVB, decide_eq_true hR])
   have b0 : (z != 0) = true := by simpa using hR
   clear hVB hR
   go_wp2_with fail
   exact (unhide HQ) _ ⟨(by (repeat (with_reducible refine Fq.Kp.set ?_ (by decide) _)); with_reducible exact Fq.Kp.refl _ _), (Fq.set_at _ (by simp [hT]) _).trans (by rw [unhide HV3] <;> rfl)⟩
theorem cp_r31 {i : Nat} (hT : T.size = 140) (s6 : T[6]? = some (.int .i64 (i : Nat))) (hi : i ≤ 1000)
  (hQ : ∀ T', (Fq.Kp 10 T T' ∧ T'[10]? = some (.int .i64 ((i : Int) + 1))) → Q .normal ⟨T', []⟩ (w)) : (Fq.reg Try.f5 31).wp Try.prog Q ⟨T, []⟩ w := by
 have a6 := fun h => Fq.el s6 h
 have d6 := Fq.gd s6
 have hu : undef = Value.tuple #[] := rfl
 have HQ := hide hQ
 clear hQ
 conv => arg 2; whnf
 go_wp2_with fail
 exact (unhide HQ) _ ⟨(by (repeat (with_reducible refine Fq.Kp.set ?_ (by decide) _)); with_reducible exact Fq.Kp.refl _ _), (Fq.set_at _ (by simp [hT]) _).trans (congrArg some (by go_num))⟩
theorem cp_r32 {i : Nat} {VB : Bool} (hT : T.size = 140) (s3 : T[3]? = some (.int .i64 (ql : Nat))) (s6 : T[6]? = some (.int .i64 (i : Nat))) (hi : i < ql) (hql : ql ≤ 1000) (hVB : VB = decide (i + 1 = ql))
  (hQ : ∀ T', (Fq.Kp 12 T T' ∧ T'[99]? = some (.bool VB)) → Q .normal ⟨T', []⟩ (w)) : (Fq.reg Try.f5 32).wp Try.prog Q ⟨T, []⟩ w := by
 have a3 := fun h => Fq.el s3 h
 have d3 := Fq.gd s3
 have a6 := fun h => Fq.el s6 h
 have d6 := Fq.gd s6
 have hu : undef = Value.tuple #[] := rfl
 have HQ := hide hQ
 clear hQ
 conv => arg 2; whnf
 have hw0 : IntKind.i64.wrap ((ql : Int) - 1) = (ql : Int) - 1 := by rw [IntKind.wrap_i64]; omega
 by_cases hR : i + 1 = ql
 · have HV3 := hide (show VB = true by rw [hVB, decide_eq_true hR])
   have b0 : ((i : Int) == (ql : Int) - 1) = true := by simp; omega
   clear hVB hR
   go_wp2_with fail
   exact (unhide HQ) _ ⟨(by (repeat (with_reducible refine Fq.Kp.set ?_ (by decide) _)); with_reducible exact Fq.Kp.refl _ _), (Fq.set_at _ (by simp [hT]) _).trans (by rw [unhide HV3] <;> rfl)⟩
 · have HV3 := hide (show VB = false by rw [hVB, decide_eq_false hR])
   have b0 : ((i : Int) == (ql : Int) - 1) = false := by simp; omega
   clear hVB hR
   go_wp2_with fail
   exact (unhide HQ) _ ⟨(by (repeat (with_reducible refine Fq.Kp.set ?_ (by decide) _)); with_reducible exact Fq.Kp.refl _ _), (Fq.set_at _ (by simp [hT]) _).trans (by rw [unhide HV3] <;> rfl)⟩
theorem cp_r33 {i : Nat} (hT : T.size = 140) (s6 : T[6]? = some (.int .i64 (i : Nat)))
  (hQ : ∀ T', (Fq.Kp 10 T T' ∧ T'[10]? = some (.int .i64 (i : Int))) → Q .normal ⟨T', []⟩ (w)) : (Fq.reg Try.f5 33).wp Try.prog Q ⟨T, []⟩ w := by
 have a6 := fun h => Fq.el s6 h
 have d6 := Fq.gd s6
 have hu : undef = Value.tuple #[] := rfl
 have HQ := hide hQ
 clear hQ
 conv => arg 2; whnf
 go_wp2_with fail
 exact (unhide HQ) _ ⟨(by (repeat (with_reducible refine Fq.Kp.set ?_ (by decide) _)); with_reducible exact Fq.Kp.refl _ _), Fq.set_at _ (by simp [hT]) _⟩
theorem cp_r34 {VB : Bool} (hT : T.size = 140) (s7 : T[7]? = some (.pointer (some ⟨bx, 0, none⟩))) (f0 : w.cell? ⟨bx, 0, none⟩ = some (.int .i64 fp)) (hVB : VB = decide (0 < fp))
  (hQ : ∀ T', (Fq.Kp 12 T T' ∧ T'[103]? = some (.bool VB)) → Q .normal ⟨T', []⟩ (w)) : (Fq.reg Try.f5 34).wp Try.prog Q ⟨T, []⟩ w := by
 have a7 := fun h => Fq.el s7 h
 have d7 := Fq.gd s7
 have hu : undef = Value.tuple #[] := rfl
 have HQ := hide hQ
 clear hQ
 conv => arg 2; whnf
 by_cases hR : 0 < fp
 · have HV3 := hide (show VB = true by rw [hVB, decide_eq_true hR] <;> rfl)
   skip
   clear hVB
   go_wp2_with fail
   exact (unhide HQ) _ ⟨(by (repeat (with_reducible refine Fq.Kp.set ?_ (by decide) _)); with_reducible exact Fq.Kp.refl _ _), (Fq.set_at _ (by simp [hT]) _).trans (by rw [unhide HV3] <;> rfl)⟩
 · have HV3 := hide (show VB = false by rw [hVB, decide_eq_false hR] <;> rfl)
   skip
   clear hVB
   go_wp2_with fail
   exact (unhide HQ) _ ⟨(by (repeat (with_reducible refine Fq.Kp.set ?_ (by decide) _)); with_reducible exact Fq.Kp.refl _ _), (Fq.set_at _ (by simp [hT]) _).trans (by rw [unhide HV3] <;> rfl)⟩
theorem cp_r36 {CA : Nat} {calls : Int} (hT : T.size = 140) (s1 : T[1]? = some (.pointer (some ⟨bp, 0, none⟩))) (s7 : T[7]? = some (.pointer (some ⟨bx, 0, none⟩))) (s10 : T[10]? = some (.int .i64 calls)) (p0 : w.cell? ⟨bp, 0, none⟩ = some (.slice qa ql qc)) (f0 : w.cell? ⟨bx, 0, none⟩ = some (.int .i64 fp)) (f1 : w.cell? ⟨bx, 1, none⟩ = some (.slice sa sl sc)) (f2 : w.cell? ⟨bx, 2, none⟩ = some (.slice fa fl fc)) (f3 : w.cell? ⟨bx, 3, none⟩ = some (.int .i64 rk)) (f4 : w.cell? ⟨bx, 4, none⟩ = some (.int .i64 rn)) (f5 : w.cell? ⟨bx, 5, none⟩ = some (.slice ra rl rc)) (hc : Calls Try.prog 13 #[.agg #[.slice qa ql qc], .agg #[.int .i64 fp, .slice sa sl sc, .slice fa fl fc, .int .i64 rk, .int .i64 rn, .slice ra rl rc], .int .i64 calls, .slice fa fl fc] w fun r w' => r = .returned (.int .i64 (CA : Nat)) ∧ Below w.heap.size w w')
  (hQ : ∀ T' w', (Fq.Kp 11 T T' ∧ T'[11]? = some (.int .i64 (CA : Nat)) ∧ Below w.heap.size w w') → Q .normal ⟨T', []⟩ w') : (Fq.reg Try.f5 36).wp Try.prog Q ⟨T, []⟩ w := by
 have a1 := fun h => Fq.el s1 h
 have d1 := Fq.gd s1
 have a7 := fun h => Fq.el s7 h
 have d7 := Fq.gd s7
 have a10 := fun h => Fq.el s10 h
 have d10 := Fq.gd s10
 have hu : undef = Value.tuple #[] := rfl
 have HQ := hide hQ
 clear hQ
 conv => arg 2; whnf
 have HC := hide hc
 clear hc
 go_wp2_with (with_reducible refine (Calls.mono (unhide HC) ?_); rintro r w2 ⟨rfl, hb2⟩; have HB := hide hb2; clear hb2)
 exact (unhide HQ) _ _ ⟨(by (repeat (with_reducible refine Fq.Kp.set ?_ (by decide) _)); with_reducible exact Fq.Kp.refl _ _), Fq.set_at _ (by simp [hT]) _, unhide HB⟩
theorem cp_r37 {i E1 : Nat} {bi VB : Bool} (hT : T.size = 140) (s3 : T[3]? = some (.int .i64 (ql : Nat))) (s6 : T[6]? = some (.int .i64 (i : Nat))) (s7 : T[7]? = some (.pointer (some ⟨bx, 0, none⟩))) (s11 : T[11]? = some (.int .i64 (E1 : Nat))) (hi : i < ql) (hql : ql ≤ 1000) (f3 : w.cell? ⟨bx, 3, none⟩ = some (.int .i64 rk)) (f4 : w.cell? ⟨bx, 4, none⟩ = some (.int .i64 rn)) (f5 : w.cell? ⟨bx, 5, none⟩ = some (.slice ra rl rc)) (hc : Calls Try.prog 14 #[.agg #[.int .i64 rk, .int .i64 rn, .slice ra rl rc]] w fun r w' => r = .returned (.bool (!bi)) ∧ Below w.heap.size w w') (hVB : VB = (decide (E1 = 0) && decide (i + 1 = ql) && bi))
  (hQ : ∀ T' w', (Fq.Kp 12 T T' ∧ T'[123]? = some (.bool VB) ∧ Below w.heap.size w w') → Q .normal ⟨T', []⟩ w') : (Fq.reg Try.f5 37).wp Try.prog Q ⟨T, []⟩ w := by
 have a3 := fun h => Fq.el s3 h
 have d3 := Fq.gd s3
 have a6 := fun h => Fq.el s6 h
 have d6 := Fq.gd s6
 have a7 := fun h => Fq.el s7 h
 have d7 := Fq.gd s7
 have a11 := fun h => Fq.el s11 h
 have d11 := Fq.gd s11
 have hu : undef = Value.tuple #[] := rfl
 have HQ := hide hQ
 clear hQ
 conv => arg 2; whnf
 have HC := hide hc
 clear hc
 have hw0 : IntKind.i64.wrap ((ql : Int) - 1) = (ql : Int) - 1 := by rw [IntKind.wrap_i64]; omega
 have HB := hide (Below.refl w.heap.size w)
 by_cases hE0 : E1 = 0
 · by_cases hR : i + 1 = ql
   · have HV3 := hide (show VB = bi by rw [hVB, decide_eq_true hE0, decide_eq_true hR]; rfl)
     have b0 : ((i : Int) == (ql : Int) - 1) = true := by simp; omega
     subst hE0
     clear hVB hR HB
     go_wp2_with (with_reducible refine (Calls.mono (unhide HC) ?_); rintro r w2 ⟨rfl, hb2⟩; have HB := hide hb2; clear hb2)
     exact (unhide HQ) _ _ ⟨(by (repeat (with_reducible refine Fq.Kp.set ?_ (by decide) _)); with_reducible exact Fq.Kp.refl _ _), (Fq.set_at _ (by simp [hT]) _).trans (by rw [unhide HV3]), unhide HB⟩
   · have HV3 := hide (show VB = false by rw [hVB, decide_eq_false hR, Bool.and_false]; rfl)
     have b0 : ((i : Int) == (ql : Int) - 1) = false := by simp; omega
     subst hE0
     clear hVB hR
     go_wp2_with fail
     exact (unhide HQ) _ _ ⟨(by (repeat (with_reducible refine Fq.Kp.set ?_ (by decide) _)); with_reducible exact Fq.Kp.refl _ _), (Fq.set_at _ (by simp [hT]) _).trans (by rw [unhide HV3] <;> rfl), unhide HB⟩
 · have bE : (((E1 : Nat) : Int) == 0) = false := by simp; exact hE0
   have HV3 := hide (show VB = false by rw [hVB, decide_eq_false hE0]; rfl)
   clear hVB hE0
   go_wp2_with fail
   exact (unhide HQ) _ _ ⟨(by (repeat (with_reducible refine Fq.Kp.set ?_ (by decide) _)); with_reducible exact Fq.Kp.refl _ _), (Fq.set_at _ (by simp [hT]) _).trans (by rw [unhide HV3] <;> rfl), unhide HB⟩
theorem cp_r38 (hT : T.size = 140)
  (hQ : ∀ T', (Fq.Kp 11 T T' ∧ T'[11]? = some (.int .i64 1)) → Q .normal ⟨T', []⟩ (w)) : (Fq.reg Try.f5 38).wp Try.prog Q ⟨T, []⟩ w := by
 have hu : undef = Value.tuple #[] := rfl
 have HQ := hide hQ
 clear hQ
 conv => arg 2; whnf
 go_wp2_with fail
 exact (unhide HQ) _ ⟨(by (repeat (with_reducible refine Fq.Kp.set ?_ (by decide) _)); with_reducible exact Fq.Kp.refl _ _), Fq.set_at _ (by simp [hT]) _⟩
theorem cp_r39 {i E1 : Nat} {VB : Bool} (hT : T.size = 140) (s3 : T[3]? = some (.int .i64 (ql : Nat))) (s6 : T[6]? = some (.int .i64 (i : Nat))) (s11 : T[11]? = some (.int .i64 (E1 : Nat))) (hi : i < ql) (hql : ql ≤ 1000) (hVB : VB = (decide (E1 = 0) && !decide (i + 1 = ql)))
  (hQ : ∀ T', (Fq.Kp 12 T T' ∧ T'[131]? = some (.bool VB)) → Q .normal ⟨T', []⟩ (w)) : (Fq.reg Try.f5 39).wp Try.prog Q ⟨T, []⟩ w := by
 have a3 := fun h => Fq.el s3 h
 have d3 := Fq.gd s3
 have a6 := fun h => Fq.el s6 h
 have d6 := Fq.gd s6
 have a11 := fun h => Fq.el s11 h
 have d11 := Fq.gd s11
 have hu : undef = Value.tuple #[] := rfl
 have HQ := hide hQ
 clear hQ
 conv => arg 2; whnf
 have hw0 : IntKind.i64.wrap ((ql : Int) - 1) = (ql : Int) - 1 := by rw [IntKind.wrap_i64]; omega
 by_cases hE0 : E1 = 0
 · by_cases hR : i + 1 = ql
   · have HV3 := hide (show VB = false by rw [hVB, decide_eq_true hR, Bool.not_true, Bool.and_false])
     have b0 : ¬ (i : Int) < (ql : Int) - 1 := by omega
     subst hE0
     clear hVB hR
     go_wp2_with fail
     exact (unhide HQ) _ ⟨(by (repeat (with_reducible refine Fq.Kp.set ?_ (by decide) _)); with_reducible exact Fq.Kp.refl _ _), (Fq.set_at _ (by simp [hT]) _).trans (by rw [unhide HV3] <;> rfl)⟩
   · have HV3 := hide (show VB = true by rw [hVB, decide_eq_false hR, decide_eq_true hE0]; rfl)
     have b0 : (i : Int) < (ql : Int) - 1 := by omega
     subst hE0
     clear hVB hR
     go_wp2_with fail
     exact (unhide HQ) _ ⟨(by (repeat (with_reducible refine Fq.Kp.set ?_ (by decide) _)); with_reducible exact Fq.Kp.refl _ _), (Fq.set_at _ (by simp [hT]) _).trans (by rw [unhide HV3] <;> rfl)⟩
 · have bE : (((E1 : Nat) : Int) == 0) = false := by simp; exact hE0
   have HV3 := hide (show VB = false by rw [hVB, decide_eq_false hE0]; rfl)
   clear hVB hE0
   go_wp2_with fail
   exact (unhide HQ) _ ⟨(by (repeat (with_reducible refine Fq.Kp.set ?_ (by decide) _)); with_reducible exact Fq.Kp.refl _ _), (Fq.set_at _ (by simp [hT]) _).trans (by rw [unhide HV3] <;> rfl)⟩
theorem cp_r40 {CA : Nat} (hT : T.size = 140) (s7 : T[7]? = some (.pointer (some ⟨bx, 0, none⟩))) (f1 : w.cell? ⟨bx, 1, none⟩ = some (.slice sa sl sc)) (f3 : w.cell? ⟨bx, 3, none⟩ = some (.int .i64 rk)) (f4 : w.cell? ⟨bx, 4, none⟩ = some (.int .i64 rn)) (f5 : w.cell? ⟨bx, 5, none⟩ = some (.slice ra rl rc)) (hc : Calls Try.prog 15 #[.agg #[.int .i64 rk, .int .i64 rn, .slice ra rl rc], .slice sa sl sc] w fun r w' => r = .returned (.int .i64 (CA : Nat)) ∧ Below w.heap.size w w')
  (hQ : ∀ T' w', (Fq.Kp 11 T T' ∧ T'[11]? = some (.int .i64 (CA : Nat)) ∧ Below w.heap.size w w') → Q .normal ⟨T', []⟩ w') : (Fq.reg Try.f5 40).wp Try.prog Q ⟨T, []⟩ w := by
 have a7 := fun h => Fq.el s7 h
 have d7 := Fq.gd s7
 have hu : undef = Value.tuple #[] := rfl
 have HQ := hide hQ
 clear hQ
 conv => arg 2; whnf
 have HC := hide hc
 clear hc
 go_wp2_with (with_reducible refine (Calls.mono (unhide HC) ?_); rintro r w2 ⟨rfl, hb2⟩; have HB := hide hb2; clear hb2)
 exact (unhide HQ) _ _ ⟨(by (repeat (with_reducible refine Fq.Kp.set ?_ (by decide) _)); with_reducible exact Fq.Kp.refl _ _), Fq.set_at _ (by simp [hT]) _, unhide HB⟩
theorem cp_r41 {E1 : Nat} {VB : Bool} (hT : T.size = 140) (s11 : T[11]? = some (.int .i64 (E1 : Nat))) (hVB : VB = !decide (E1 = 0))
  (hQ : ∀ T', (Fq.Kp 12 T T' ∧ T'[138]? = some (.bool VB)) → Q .normal ⟨T', []⟩ (w)) : (Fq.reg Try.f5 41).wp Try.prog Q ⟨T, []⟩ w := by
 have a11 := fun h => Fq.el s11 h
 have d11 := Fq.gd s11
 have hu : undef = Value.tuple #[] := rfl
 have HQ := hide hQ
 clear hQ
 conv => arg 2; whnf
 by_cases hE0 : E1 = 0
 · have HV3 := hide (show VB = false by rw [hVB, decide_eq_true hE0] <;> rfl)
   subst hE0
   clear hVB
   go_wp2_with fail
   exact (unhide HQ) _ ⟨(by (repeat (with_reducible refine Fq.Kp.set ?_ (by decide) _)); with_reducible exact Fq.Kp.refl _ _), (Fq.set_at _ (by simp [hT]) _).trans (by rw [unhide HV3] <;> rfl)⟩
 · have bN : (((E1 : Nat) : Int) != 0) = true := by simp; exact hE0
   have HV3 := hide (show VB = true by rw [hVB, decide_eq_false hE0] <;> rfl)
   clear hVB hE0
   go_wp2_with fail
   exact (unhide HQ) _ ⟨(by (repeat (with_reducible refine Fq.Kp.set ?_ (by decide) _)); with_reducible exact Fq.Kp.refl _ _), (Fq.set_at _ (by simp [hT]) _).trans (by rw [unhide HV3] <;> rfl)⟩
theorem cp_r42 {E1 : Nat} (hT : T.size = 140) (s11 : T[11]? = some (.int .i64 (E1 : Nat)))
  (hQ : ∀ T', (Fq.Kp 2 T T' ∧ T'[2]? = some (.int .i64 (E1 : Nat))) → Q .normal ⟨T', []⟩ (w)) : (Fq.reg Try.f5 42).wp Try.prog Q ⟨T, []⟩ w := by
 have a11 := fun h => Fq.el s11 h
 have d11 := Fq.gd s11
 have hu : undef = Value.tuple #[] := rfl
 have HQ := hide hQ
 clear hQ
 conv => arg 2; whnf
 go_wp2_with fail
 exact (unhide HQ) _ ⟨(by (repeat (with_reducible refine Fq.Kp.set ?_ (by decide) _)); with_reducible exact Fq.Kp.refl _ _), Fq.set_at _ (by simp [hT]) _⟩
end
end Go.Proofs.Ytpfogjplnodacaa
namespace Go.Proofs.Ytpfogjplnodacaa
open Go.RowKit
set_option linter.unusedVariables false
structure Cp.F (T : Array Value) (bp ql i : Nat) : Prop where
 size : T.size = 140
 s1 : T[1]? = some (.pointer (some ⟨bp, 0, none⟩))
 s3 : T[3]? = some (.int .i64 (ql : Nat))
 s6 : T[6]? = some (.int .i64 (i : Nat))
theorem Cp.F.kp {T T' : Array Value} {bp ql i : Nat} (h : Cp.F T bp ql i) (k : Fq.Kp 7 T T') : Cp.F T' bp ql i :=
 ⟨k.size.trans h.size, (k.at_ 1 (by omega)).trans h.s1, (k.at_ 3 (by omega)).trans h.s3, (k.at_ 6 (by omega)).trans h.s6⟩
structure Cp.G (T : Array Value) (bp ql i bx : Nat) : Prop extends Cp.F T bp ql i where
 s7 : T[7]? = some (.pointer (some ⟨bx, 0, none⟩))
theorem Cp.G.kp {T T' : Array Value} {bp ql i bx : Nat} (h : Cp.G T bp ql i bx) (k : Fq.Kp 8 T T') : Cp.G T' bp ql i bx :=
 ⟨h.toF.kp (k.mono (by omega)), (k.at_ 7 (by omega)).trans h.s7⟩
theorem Cp.take_any {l : List Int} {k : Nat} (h : (l.take k).any Pg.notNought = false) {z : Int} (hz : l[k]? = some z) : (l.take (k + 1)).any Pg.notNought = Pg.notNought z := by
 obtain ⟨hk, hx⟩ := List.getElem?_eq_some_iff.1 hz
 rw [List.take_succ_eq_append_getElem hk, List.any_append, h, hx]
 simp
theorem Cp.take_size {l : List Int} {k : Nat} (h : (l.take k).any Pg.noSize = false) {z : Int} (hz : l[k]? = some z) : (l.take (k + 1)).any Pg.noSize = Pg.noSize z := by
 obtain ⟨hk, hx⟩ := List.getElem?_eq_some_iff.1 hz
 rw [List.take_succ_eq_append_getElem hk, List.any_append, h, hx]
 simp
theorem Cp.any_take {f : Int → Bool} {l : List Int} {k : Nat} (h : (l.take k).any f = true) : l.any f = true := by
 rw [List.any_eq_true] at h ⊢
 obtain ⟨z, h1, h2⟩ := h
 exact ⟨z, List.mem_of_mem_take h1, h2⟩
theorem Cp.any_take_le {f : Int → Bool} {l : List Int} {k j : Nat} (hkj : k ≤ j) (h : (l.take k).any f = true) : (l.take j).any f = true := by
 have : l.take k = (l.take j).take k := by rw [List.take_take, Nat.min_eq_left hkj]
 rw [this] at h
 exact Cp.any_take h
theorem Cp.may_last {ql : Nat} {now : Nat} (h : now + 1 = ql) (z : Int) : decide (0 ≤ z ∧ z ≤ (now : Int) - 1) = Pg.may now ql z := by
 unfold Pg.may
 congr 1
 apply propext
 constructor <;> intro ⟨a, b⟩ <;> omega
theorem Cp.may_not {ql : Nat} {now : Nat} (h : now + 1 < ql) (z : Int) : decide (0 ≤ z ∧ z ≤ (now : Int) + 1 - 1) = Pg.may now ql z := by
 unfold Pg.may
 congr 1
 apply propext
 constructor <;> intro ⟨a, b⟩ <;> omega
theorem cp_round {m n : Nat} (b o ql qc : Nat) (p : List (Pg.FT m n)) (hp6 : ql ≤ 6) (w : World) (hp : Pg.RP w m n ⟨some ⟨b, o, none⟩, ql, qc⟩ p) (wr : World) (hbw : Below w.heap.size w wr) (bp : Nat) (p0 : wr.cell? ⟨bp, 0, none⟩ = some (.slice (some ⟨b, o, none⟩) ql qc)) (hlp : bp < wr.heap.size)
  (i : Nat) (hi : i < ql) (x : Pg.FT m n) (ff : Pg.F) (hlies : Pg.LF wr b (o + i * 6) ff) (hrd : Pg.RF w m n ff x) (U : Array Value) (hF : Cp.F U bp ql i) (Q : Exit → Act → World → Prop)
  (hQn : ∀ U' v, Cp.F U' bp ql i → Below wr.heap.size wr v → Pg.wfn p i x = 0 → Q .normal ⟨U', []⟩ v)
  (hQr : ∀ U' v, U'[2]? = some (.int .i64 (Pg.wfn p i x : Nat)) → Below wr.heap.size wr v → Pg.wfn p i x ≠ 0 → Q .ret ⟨U', []⟩ v) :
  (Fq.blk Try.f5 3).wp Try.prog Q ⟨U, []⟩ wr := by
 have hql : ql = p.length := hp.len
 obtain ⟨fp, ⟨sa, sl, sc⟩, ⟨fa, fl, fc⟩, ⟨rk, rn, ⟨ra, rl, rc⟩⟩⟩ := ff
 obtain ⟨e0, e1, e2, e3, e4, e5⟩ := hlies
 obtain ⟨hpar, hsz, hcm, hre⟩ := hrd
 dsimp only at *
 have hsl : sl = x.sizes.length := hsz.len
 have hsf : sl ≤ 35184372088832 := by rw [hsl]; exact hsz.few
 have hal := (Below.refl wr.heap.size wr).alloc (Nat.le_refl _) (Obj.cells #[.int .i64 fp, .slice sa sl sc, .slice fa fl fc, .int .i64 rk, .int .i64 rn, .slice ra rl rc] 44)
 have hbx : ∀ i v, [.int .i64 fp, .slice sa sl sc, .slice fa fl fc, .int .i64 rk, .int .i64 rn, .slice ra rl rc][i]? = some v → (wr.alloc (Obj.cells #[.int .i64 fp, .slice sa sl sc, .slice fa fl fc, .int .i64 rk, .int .i64 rn, .slice ra rl rc] 44)).cell? ⟨wr.heap.size, i, none⟩ = some v := fun i v hv => by
  match i, hv with
  | 0, hv => cases hv; go_simp
  | 1, hv => cases hv; go_simp
  | 2, hv => cases hv; go_simp
  | 3, hv => cases hv; go_simp
  | 4, hv => cases hv; go_simp
  | 5, hv => cases hv; go_simp
  | _ + 6, hv => cases hv
 have hbl : wr.heap.size < (wr.alloc (Obj.cells #[.int .i64 fp, .slice sa sl sc, .slice fa fl fc, .int .i64 rk, .int .i64 rn, .slice ra rl rc] 44)).heap.size := by simp
 have p1 := (hal.cell (p := ⟨bp, 0, none⟩) hlp).trans p0
 have hW1 := hbw.trans (hal.mono hbw.size)
 have hwfn : Pg.wfn p i x = Pg.orW (Pg.whead (decide (i + 1 = ql)) fp x.sizes) (Pg.orW (Pg.wcs p i x n x.cmds) (Pg.wres (decide (i + 1 = ql)) m n x)) := by rw [hpar, hql]; rfl
 have hhd : ∀ k, Pg.whead (decide (i + 1 = ql)) fp x.sizes = k → k ≠ 0 → Pg.wfn p i x = k := fun k h1 h2 => by rw [hwfn, h1]; exact if_neg h2
 generalize Pg.wfn p i x = G at *
 refine Fq.in_ Try.f5 3 (by kernel_rfl) ?_
 refine wp_seq ?_
 refine Fq.at_ Try.f5 16 (by kernel_rfl) ?_
 refine cp_r16 hF.size hF.s1 hF.s6 p0 hi (by omega) e0 e1 e2 e3 e4 e5 (fun U1 ⟨k1, h7⟩ => ?_)
 generalize wr.alloc (Obj.cells #[.int .i64 fp, .slice sa sl sc, .slice fa fl fc, .int .i64 rk, .int .i64 rn, .slice ra rl rc] 44) = W1 at *
 have hg1 : Cp.G U1 bp ql i wr.heap.size := ⟨hF.kp k1, h7⟩
 clear k1 h7 hF
 refine Fq.ok ?_
 refine wp_seq (wp_seq ?_)
 refine Fq.at_ Try.f5 17 (by kernel_rfl) ?_
 refine cp_r17 hg1.size hg1.s7 (hbx 0 _ rfl) (hbx 1 _ rfl) hsf rfl (fun U2 ⟨k2, h55⟩ => ?_)
 have hg2 := hg1.kp (k2.mono (by omega))
 clear hg1 k2
 refine Fq.ok ?_
 refine Fq.cond 55 h55 (fun hb => ?_) (fun hb => ?_)
 · have hGv : G = 3 := hhd 3 (by unfold Pg.whead; rw [if_pos (by rw [← hsl]; exact of_decide_eq_true hb)]) (by decide)
   refine wp_seq ?_
   refine Fq.at_ Try.f5 18 (by kernel_rfl) ?_
   refine cp_r18 hg2.size (fun U' ⟨_, h2⟩ => ?_)
   refine Fq.ok (wp_ret ?_)
   repeat (first | with_reducible refine Fq.thR ?_ | with_reducible refine Fq.blR ?_)
   exact hQr _ _ (by rw [hGv]; exact h2) hal (by rw [hGv]; decide)
 refine Fq.skip (Fq.ok ?_)
 have hfp := of_decide_eq_false hb
 clear hb h55
 refine wp_seq (wp_seq ?_)
 refine Fq.at_ Try.f5 19 (by kernel_rfl) ?_
 refine cp_r19 hg2.size hg2.s7 (hbx 0 _ rfl) (hbx 1 _ rfl) hsf (by omega) rfl (fun U3 ⟨k3, h67⟩ => ?_)
 have hg3 := hg2.kp (k3.mono (by omega))
 clear hg2 k3
 refine Fq.ok ?_
 refine Fq.cond 67 h67 (fun hb => ?_) (fun hb => ?_)
 · have hGv : G = 2 := hhd 2 (by unfold Pg.whead; rw [if_neg (by rw [← hsl]; exact hfp), if_pos (by rw [← hsl]; exact of_decide_eq_true hb)]) (by decide)
   refine wp_seq ?_
   refine Fq.at_ Try.f5 20 (by kernel_rfl) ?_
   refine cp_r20 hg3.size (fun U' ⟨_, h2⟩ => ?_)
   refine Fq.ok (wp_ret ?_)
   repeat (first | with_reducible refine Fq.thR ?_ | with_reducible refine Fq.blR ?_)
   exact hQr _ _ (by rw [hGv]; exact h2) hal (by rw [hGv]; decide)
 refine Fq.skip (Fq.ok ?_)
 have hfp2 := of_decide_eq_false hb
 clear hb h67
 have hhd1 : Pg.whead (decide (i + 1 = ql)) fp x.sizes = if x.sizes.any Pg.noSize then 3 else if (x.sizes.take fp.toNat).any Pg.notNought then 1 else if decide (i + 1 = ql) = true ∧ 0 < fp then 1 else 0 := by
  unfold Pg.whead
  rw [if_neg (by rw [← hsl]; exact hfp), if_neg (by rw [← hsl]; exact hfp2)]
 have hs1 := hsz.later hW1 (Nat.le_refl _)
 refine wp_seq (wp_seq ?_)
 refine Fq.at_ Try.f5 21 (by kernel_rfl) ?_
 refine cp_r21 hg3.size (fun U4 ⟨k4, h8⟩ => ?_)
 have hg4 := hg3.kp k4
 clear hg3 k4
 refine Fq.ok ?_
 refine wp_block ?_
 refine wp_loop_ghost (fun d a v => ∃ (U' : Array Value) (q : Nat), a = ⟨U', []⟩ ∧ q ≤ sl ∧ d = sl - q ∧ Cp.G U' bp ql i wr.heap.size ∧ U'[8]? = some (.int .i64 (q : Nat)) ∧ (x.sizes.take q).any Pg.noSize = false ∧ v = W1) sl ⟨U4, 0, rfl, Nat.zero_le _, rfl, hg4, h8, rfl, rfl⟩ ?_
 clear hg4 h8
 rintro d a v ⟨Ua, q, rfl, hq, rfl, hga, ha8, hno, hvw⟩
 rw [hvw]
 clear hvw
 refine wp_seq (wp_seq ?_)
 refine Fq.at_ Try.f5 22 (by kernel_rfl) ?_
 refine cp_r22 hga.size hga.s7 ha8 (hbx 1 _ rfl) hsf rfl (fun Ub ⟨kb, h72⟩ => ?_)
 have hgb := hga.kp (kb.mono (by omega))
 have hb8 := (kb.at_ 8 (by omega)).trans ha8
 clear hga kb ha8
 refine Fq.ok ?_
 refine Fq.cond 72 h72 (fun hb => ?_) (fun hb => ?_)
 · have hlt : q < sl := by have := of_decide_eq_true hb; omega
   have hz := List.getElem?_eq_getElem (l := x.sizes) (i := q) (by omega)
   obtain ⟨bz, oz, hsa, hbz, hcz⟩ := hs1.at_ q _ hz
   generalize hzd : x.sizes[q]'(by omega) = z at *
   refine Fq.skip (Fq.ok ?_)
   refine wp_seq (wp_block ?_)
   refine wp_seq ?_
   refine Fq.at_ Try.f5 24 (by kernel_rfl) ?_
   refine cp_r24 hgb.size hgb.s7 hb8 (by rw [← hsa]; exact hbx 1 _ rfl) hlt hsf hcz rfl (fun Uc ⟨kc, h81⟩ => ?_)
   have hgc := hgb.kp (kc.mono (by omega))
   refine Fq.ok ?_
   refine Fq.cond 81 h81 (fun hb2 => ?_) (fun hb2 => ?_)
   · have hns : Pg.noSize z = true := by
      unfold Pg.noSize
      refine decide_eq_true ?_
      have : ¬ (0 ≤ z ∧ z ≤ 8) := of_decide_eq_false (by rw [Bool.not_eq_true'] at hb2; exact hb2)
      omega
     have hGv : G = 3 := hhd 3 (by rw [hhd1, if_pos (Cp.any_take (k := q + 1) ((Cp.take_size hno hz).trans hns))]) (by decide)
     refine wp_seq ?_
     refine Fq.at_ Try.f5 25 (by kernel_rfl) ?_
     refine cp_r25 hgc.size (fun U' ⟨_, h2⟩ => ?_)
     refine Fq.ok (wp_ret ?_)
     repeat (first | with_reducible refine Fq.thR ?_ | with_reducible refine Fq.blR ?_)
     exact hQr _ _ (by rw [hGv]; exact h2) hal (by rw [hGv]; decide)
   · have hns : Pg.noSize z = false := by
      unfold Pg.noSize
      refine decide_eq_false ?_
      have : 0 ≤ z ∧ z ≤ 8 := of_decide_eq_true (by rw [Bool.not_eq_false'] at hb2; exact hb2)
      omega
     refine Fq.skip (Fq.blN (Fq.ok ?_))
     refine Fq.at_ Try.f5 23 (by kernel_rfl) ?_
     refine cp_r23 hgc.size ((kc.at_ 8 (by omega)).trans hb8) (by omega) (fun Ud ⟨kd, hd8⟩ => ?_)
     exact ⟨sl - (q + 1), by omega, Ud, q + 1, rfl, by omega, rfl, hgc.kp kd, hd8, (Cp.take_size hno hz).trans hns, rfl⟩
 have hqe : q = sl := by have := of_decide_eq_false hb; omega
 have hno2 : x.sizes.any Pg.noSize = false := by rw [hqe, hsl, List.take_length] at hno; exact hno
 clear hno h72 hb hb8
 refine wp_exit (Fq.thX (Fq.thX (Fq.blX (Fq.ok ?_))))
 refine wp_seq (wp_seq ?_)
 refine Fq.at_ Try.f5 26 (by kernel_rfl) ?_
 refine cp_r26 hgb.size (fun U5 ⟨k5, h9⟩ => ?_)
 have hg5 := hgb.kp (k5.mono (by omega))
 clear hgb k5
 refine Fq.ok ?_
 refine wp_block ?_
 refine wp_loop_ghost (fun d a v => ∃ (U' : Array Value) (q : Nat), a = ⟨U', []⟩ ∧ q ≤ fp.toNat ∧ d = fp.toNat - q ∧ Cp.G U' bp ql i wr.heap.size ∧ U'[9]? = some (.int .i64 (q : Nat)) ∧ (x.sizes.take q).any Pg.notNought = false ∧ v = W1) fp.toNat ⟨U5, 0, rfl, Nat.zero_le _, rfl, hg5, h9, rfl, rfl⟩ ?_
 clear hg5 h9
 rintro d a v ⟨Ue, q2, rfl, hq2, rfl, hge, he9, hnn, hvw⟩
 rw [hvw]
 clear hvw
 refine wp_seq (wp_seq ?_)
 refine Fq.at_ Try.f5 27 (by kernel_rfl) ?_
 refine cp_r27 hge.size hge.s7 he9 (hbx 0 _ rfl) rfl (fun Ub ⟨kb, h85⟩ => ?_)
 have hgb := hge.kp (kb.mono (by omega))
 have hb9 := (kb.at_ 9 (by omega)).trans he9
 clear hge kb he9
 refine Fq.ok ?_
 refine Fq.cond 85 h85 (fun hb => ?_) (fun hb => ?_)
 · have hlt : (q2 : Int) < fp := of_decide_eq_true hb
   have hz := List.getElem?_eq_getElem (l := x.sizes) (i := q2) (by omega)
   obtain ⟨bz, oz, hsa, hbz, hcz⟩ := hs1.at_ q2 _ hz
   generalize hzd : x.sizes[q2]'(by omega) = z at *
   refine Fq.skip (Fq.ok ?_)
   refine wp_seq (wp_block ?_)
   refine wp_seq ?_
   refine Fq.at_ Try.f5 29 (by kernel_rfl) ?_
   refine cp_r29 hgb.size hgb.s7 hb9 (by rw [← hsa]; exact hbx 1 _ rfl) (by omega) hsf hcz rfl (fun Uc ⟨kc, h93⟩ => ?_)
   have hgc := hgb.kp (kc.mono (by omega))
   refine Fq.ok ?_
   refine Fq.cond 93 h93 (fun hb2 => ?_) (fun hb2 => ?_)
   · have hGv : G = 1 := hhd 1 (by rw [hhd1, if_neg (by rw [hno2]; decide), if_pos (Cp.any_take_le (k := q2 + 1) (by omega) ((Cp.take_any hnn hz).trans hb2))]) (by decide)
     refine wp_seq ?_
     refine Fq.at_ Try.f5 30 (by kernel_rfl) ?_
     refine cp_r30 hgc.size (fun U' ⟨_, h2⟩ => ?_)
     refine Fq.ok (wp_ret ?_)
     repeat (first | with_reducible refine Fq.thR ?_ | with_reducible refine Fq.blR ?_)
     exact hQr _ _ (by rw [hGv]; exact h2) hal (by rw [hGv]; decide)
   · refine Fq.skip (Fq.blN (Fq.ok ?_))
     refine Fq.at_ Try.f5 28 (by kernel_rfl) ?_
     refine cp_r28 hgc.size ((kc.at_ 9 (by omega)).trans hb9) (by omega) (fun Ud ⟨kd, hd9⟩ => ?_)
     exact ⟨fp.toNat - (q2 + 1), by omega, Ud, q2 + 1, rfl, by omega, rfl, hgc.kp (kd.mono (by omega)), hd9, (Cp.take_any hnn hz).trans hb2, rfl⟩
 have hqe2 : q2 = fp.toNat := by have := of_decide_eq_false hb; omega
 have hhd2 : Pg.whead (decide (i + 1 = ql)) fp x.sizes = if decide (i + 1 = ql) = true ∧ 0 < fp then 1 else 0 := by
  rw [hqe2] at hnn
  rw [hhd1, if_neg (by rw [hno2]; decide), if_neg (by rw [hnn]; decide)]
 clear hnn h85 hb hb9 hhd1
 have hnn : ∀ z ∈ x.sizes, 0 ≤ z := fun z hz => by
  rw [List.any_eq_false] at hno2
  have h1 := hno2 z hz
  unfold Pg.noSize at h1
  rw [decide_eq_true_eq] at h1
  omega
 refine wp_exit (Fq.thX (Fq.thX (Fq.blX (Fq.ok ?_))))
 refine wp_seq ?_
 refine Fq.at_ Try.f5 31 (by kernel_rfl) ?_
 refine cp_r31 hgb.size hgb.s6 (by omega) (fun U6 ⟨k6, h10⟩ => ?_)
 have hg6 := hgb.kp (k6.mono (by omega))
 clear hgb k6
 refine Fq.ok ?_
 refine Fq.cutR (fun U' v => Cp.G U' bp ql i wr.heap.size ∧ U'[10]? = some (.int .i64 (if i + 1 = ql then (i : Int) else (i : Int) + 1)) ∧ Pg.whead (decide (i + 1 = ql)) fp x.sizes = 0 ∧ v = W1) (fun U' v => U'[2]? = some (.int .i64 1) ∧ Pg.whead (decide (i + 1 = ql)) fp x.sizes = 1 ∧ v = W1) (fun Q' hQ' hR' => ?_) (fun U' v ⟨h2, hh1, hv⟩ => ?_) (fun U8 v8 ⟨hg8, h10b, hh0, hv8⟩ => ?_)
 · refine wp_seq ?_
   refine Fq.at_ Try.f5 32 (by kernel_rfl) ?_
   refine cp_r32 hg6.size hg6.s3 hg6.s6 hi (by omega) rfl (fun U7 ⟨k7, h99⟩ => ?_)
   have hg7 := hg6.kp (k7.mono (by omega))
   refine Fq.ok ?_
   refine Fq.cond 99 h99 (fun hb => ?_) (fun hb => ?_)
   · have hl : i + 1 = ql := of_decide_eq_true hb
     refine wp_seq ?_
     refine Fq.at_ Try.f5 33 (by kernel_rfl) ?_
     refine cp_r33 hg7.size hg7.s6 (fun Ua ⟨ka, ha10⟩ => ?_)
     have hga := hg7.kp (ka.mono (by omega))
     refine Fq.ok ?_
     refine wp_seq ?_
     refine Fq.at_ Try.f5 34 (by kernel_rfl) ?_
     refine cp_r34 hga.size hga.s7 (hbx 0 _ rfl) rfl (fun Ub ⟨kb, h103⟩ => ?_)
     have hgb := hga.kp (kb.mono (by omega))
     refine Fq.ok ?_
     refine Fq.cond 103 h103 (fun hb2 => ?_) (fun hb2 => ?_)
     · refine wp_seq ?_
       refine Fq.at_ Try.f5 35 (by kernel_rfl) ?_
       refine cp_r35 hgb.size (fun Uc ⟨_, h2⟩ => ?_)
       refine Fq.ok (wp_ret ?_)
       repeat (first | with_reducible refine Fq.thR ?_ | with_reducible refine Fq.blR ?_)
       exact hR' _ _ ⟨h2, by rw [hhd2, if_pos ⟨decide_eq_true hl, of_decide_eq_true hb2⟩], rfl⟩
     · refine Fq.skip ?_
       exact hQ' _ _ ⟨hgb, by rw [kb.at_ 10 (by omega), ha10, if_pos hl], by rw [hhd2, if_neg (fun h => of_decide_eq_false hb2 h.2)], rfl⟩
   · have hl : ¬ i + 1 = ql := of_decide_eq_false hb
     refine Fq.skip ?_
     exact hQ' _ _ ⟨hg7, by rw [k7.at_ 10 (by omega), h10, if_neg hl], by rw [hhd2, if_neg (fun h => hl (of_decide_eq_true h.1))], rfl⟩
 · have hGv : G = 1 := hhd 1 hh1 (by decide)
   rw [hv]
   exact hQr _ _ (by rw [hGv]; exact h2) hal (by rw [hGv]; decide)
 rw [hv8]
 clear hv8 hg6 h10 hhd2 hhd
 have hG1 : G = Pg.orW (Pg.wcs p i x n x.cmds) (Pg.wres (decide (i + 1 = ql)) m n x) := by rw [hwfn, hh0]; rfl
 refine wp_seq ?_
 refine Fq.at_ Try.f5 36 (by kernel_rfl) ?_
 refine cp_r36 (CA := Pg.wcs p i x n x.cmds) hg8.size hg8.s1 hg8.s7 h10b p1 (hbx 0 _ rfl) (hbx 1 _ rfl) (hbx 2 _ rfl) (hbx 3 _ rfl) (hbx 4 _ rfl) (hbx 5 _ rfl) (checkCmds_any (some ⟨b, o, none⟩) ql qc p i x _ fp rk rn sa fa ra sl sc fl fc rl rc hnn (fun z => ?_) (by split <;> omega) (by split <;> omega) n ⟨fa, fl, fc⟩ x.cmds W1 (Pg.RP.later hp hW1 (Nat.le_refl _)) hs1 (hcm.laterC hW1 (Nat.le_refl _))) (fun U9 v9 ⟨k9, h11, hb9⟩ => ?_)
 · rw [← hql]
   by_cases hl : i + 1 = ql
   · rw [if_pos hl]
     exact Cp.may_last hl z
   · rw [if_neg hl]
     exact Cp.may_not (by omega) z
 have hg9 := hg8.kp (k9.mono (by omega))
 have hbx9 : ∀ j v, [.int .i64 fp, .slice sa sl sc, .slice fa fl fc, .int .i64 rk, .int .i64 rn, .slice ra rl rc][j]? = some v → v9.cell? ⟨wr.heap.size, j, none⟩ = some v := fun j v hv => (hb9.cell (p := ⟨wr.heap.size, j, none⟩) hbl).trans (hbx j v hv)
 have hW9 := hW1.trans (hb9.mono hW1.size)
 have hA9 := hal.trans (hb9.mono hal.size)
 have hbl9 : wr.heap.size < v9.heap.size := Nat.lt_of_lt_of_le hbl hb9.size
 clear hg8 h10b k9
 generalize Pg.wcs p i x n x.cmds = C at *
 refine Fq.ok ?_
 obtain ⟨E1, hE1⟩ : ∃ E1, E1 = Pg.orW C (if i + 1 = ql then (if Pg.isX m x.res then 1 else 0) else 0) := ⟨_, rfl⟩
 refine Fq.cut (fun U' v => Cp.G U' bp ql i wr.heap.size ∧ U'[11]? = some (.int .i64 (E1 : Nat)) ∧ Below v9.heap.size v9 v) (fun Q' hQ' => ?_) (fun U10 v10 ⟨hg10, h11b, hb10⟩ => ?_)
 · refine wp_seq ?_
   refine Fq.at_ Try.f5 37 (by kernel_rfl) ?_
   refine cp_r37 (bi := Pg.isX m x.res) hg9.size hg9.s3 hg9.s6 hg9.s7 h11 hi (by omega) (hbx9 3 _ rfl) (hbx9 4 _ rfl) (hbx9 5 _ rfl) (noneExpr_any m ⟨rk, rn, ⟨ra, rl, rc⟩⟩ x.res v9 (hre.later hW9 (Nat.le_refl _))) rfl (fun Ua va ⟨ka, h123, hba⟩ => ?_)
   have hga := hg9.kp (ka.mono (by omega))
   refine Fq.ok ?_
   refine Fq.cond 123 h123 (fun hb => ?_) (fun hb => ?_)
   · rw [Bool.and_eq_true, Bool.and_eq_true, decide_eq_true_eq, decide_eq_true_eq] at hb
     refine Fq.at_ Try.f5 38 (by kernel_rfl) ?_
     refine cp_r38 hga.size (fun Ub ⟨kb, hb11⟩ => ?_)
     exact hQ' _ _ ⟨hga.kp (kb.mono (by omega)), by rw [hb11, hE1, if_pos hb.1.2, if_pos hb.2, hb.1.1]; rfl, hba⟩
   · refine Fq.skip ?_
     refine hQ' _ _ ⟨hga, ?_, hba⟩
     rw [ka.at_ 11 (by omega), h11, hE1]
     unfold Pg.orW
     by_cases hc0 : C = 0
     · rw [if_pos hc0]
       by_cases hl : i + 1 = ql
       · rw [if_pos hl]
         rw [decide_eq_true hc0, decide_eq_true hl, Bool.true_and, Bool.true_and] at hb
         rw [hb, hc0]
         rfl
       · rw [if_neg hl, hc0]
     · rw [if_neg hc0]
 have hbxA : ∀ j v, [.int .i64 fp, .slice sa sl sc, .slice fa fl fc, .int .i64 rk, .int .i64 rn, .slice ra rl rc][j]? = some v → v10.cell? ⟨wr.heap.size, j, none⟩ = some v := fun j v hv => (hb10.cell (p := ⟨wr.heap.size, j, none⟩) hbl9).trans (hbx9 j v hv)
 have hW10 := hW9.trans (hb10.mono hW9.size)
 have hA10 := hA9.trans (hb10.mono hA9.size)
 have hG2 : G = Pg.orW E1 (if i + 1 = ql then 0 else Pg.chkX x.sizes m x.res) := by
  rw [hG1, hE1]
  unfold Pg.orW Pg.wres
  by_cases hc0 : C = 0
  · rw [if_pos hc0, if_pos hc0]
    by_cases hl : i + 1 = ql
    · rw [if_pos (decide_eq_true hl), if_pos hl, if_pos hl]
      split <;> rfl
    · rw [if_neg (by rw [decide_eq_false hl]; decide), if_neg hl, if_neg hl, if_pos rfl]
  · rw [if_neg hc0, if_neg hc0, if_neg hc0]
 clear hg9 h11 hG1 hE1
 refine Fq.cut (fun U' v => Cp.G U' bp ql i wr.heap.size ∧ U'[11]? = some (.int .i64 (G : Nat)) ∧ Below v10.heap.size v10 v) (fun Q' hQ' => ?_) (fun U11 v11 ⟨hg11, h11c, hb11⟩ => ?_)
 · refine wp_seq ?_
   refine Fq.at_ Try.f5 39 (by kernel_rfl) ?_
   refine cp_r39 hg10.size hg10.s3 hg10.s6 h11b hi (by omega) rfl (fun Ua ⟨ka, h131⟩ => ?_)
   have hga := hg10.kp (ka.mono (by omega))
   refine Fq.ok ?_
   refine Fq.cond 131 h131 (fun hb => ?_) (fun hb => ?_)
   · rw [Bool.and_eq_true, decide_eq_true_eq, Bool.not_eq_true', decide_eq_false_iff_not] at hb
     refine Fq.at_ Try.f5 40 (by kernel_rfl) ?_
     refine cp_r40 (CA := Pg.chkX x.sizes m x.res) hga.size hga.s7 (hbxA 1 _ rfl) (hbxA 3 _ rfl) (hbxA 4 _ rfl) (hbxA 5 _ rfl) (CheckExpr_any m ⟨rk, rn, ⟨ra, rl, rc⟩⟩ x.res v10 ⟨sa, sl, sc⟩ x.sizes (hre.later hW10 (Nat.le_refl _)) (hsz.later hW10 (Nat.le_refl _)) hnn) (fun Ub vb ⟨kb, hb11, hbb⟩ => ?_)
     exact hQ' _ _ ⟨hga.kp (kb.mono (by omega)), by rw [hb11, hG2, hb.1, if_neg hb.2]; rfl, hbb⟩
   · refine Fq.skip ?_
     refine hQ' _ _ ⟨hga, ?_, Below.refl _ _⟩
     rw [ka.at_ 11 (by omega), h11b, hG2]
     unfold Pg.orW
     by_cases hc0 : E1 = 0
     · rw [if_pos hc0]
       by_cases hl : i + 1 = ql
       · rw [if_pos hl, hc0]
       · rw [decide_eq_true hc0, decide_eq_false hl] at hb
         cases hb
     · rw [if_neg hc0]
 have hA11 := hA10.trans (hb11.mono hA10.size)
 refine wp_seq ?_
 refine Fq.at_ Try.f5 41 (by kernel_rfl) ?_
 refine cp_r41 hg11.size h11c rfl (fun U12 ⟨k12, h138⟩ => ?_)
 have hg12 := hg11.kp (k12.mono (by omega))
 refine Fq.ok ?_
 refine Fq.cond 138 h138 (fun hb => ?_) (fun hb => ?_)
 · have hGn : G ≠ 0 := by simpa using hb
   refine wp_seq ?_
   refine Fq.at_ Try.f5 42 (by kernel_rfl) ?_
   refine cp_r42 hg12.size ((k12.at_ 11 (by omega)).trans h11c) (fun U13 ⟨_, h2⟩ => ?_)
   refine Fq.ok (wp_ret ?_)
   repeat (first | with_reducible refine Fq.thR ?_ | with_reducible refine Fq.blR ?_)
   exact hQr _ _ h2 hA11 hGn
 · have hGn : G = 0 := by simpa using hb
   refine Fq.skip ?_
   exact hQn _ _ hg12.toF hA11 hGn
end Go.Proofs.Ytpfogjplnodacaa
namespace Go.Proofs.Ytpfogjplnodacaa
open Go.RowKit
set_option linter.unusedVariables false
theorem Cp.min_sum {α : Type} (g : α → Nat) : ∀ l : List α, min 41 ((l.map fun y => min 41 (g y)).sum) = min 41 ((l.map g).sum)
 | [] => rfl
 | y :: r => by
  have h := Cp.min_sum g r
  rw [List.map_cons, List.sum_cons, List.map_cons, List.sum_cons]
  omega
theorem Cp.many {m n : Nat} (p : List (Pg.FT m n)) : Pg.manyP p = decide (40 < (p.map fun x => Pg.mny 1 x.cmds).sum) := by
 unfold Pg.manyP
 by_cases h : p.any (fun f => decide (5 < Pg.deps f.cmds)) = true
 · rw [h, Bool.or_true]
   rw [List.any_eq_true] at h
   obtain ⟨f, hf, hd⟩ := h
   have h1 : Pg.mny 1 f.cmds = 41 := if_pos (by have := of_decide_eq_true hd; omega)
   have h2 := Pg.mem_le_sum (fun x : Pg.FT m n => Pg.mny 1 x.cmds) p f hf
   rw [decide_eq_true (by have h3 : Pg.mny 1 f.cmds ≤ _ := h2; omega)]
 · have h0 : p.any (fun f => decide (5 < Pg.deps f.cmds)) = false := by simpa using h
   rw [h0, Bool.or_false]
   have h1 : (p.map fun x => Pg.mny 1 x.cmds) = p.map fun x => min 41 (Pg.cnts x.cmds) := by
    apply List.map_congr_left
    intro f hf
    rw [List.any_eq_false] at h0
    have h2 := h0 f hf
    exact if_neg (by have : ¬ 5 < Pg.deps f.cmds := fun h => h2 (decide_eq_true h); omega)
   rw [h1]
   have h2 := Cp.min_sum (fun x : Pg.FT m n => Pg.cnts x.cmds) p
   congr 1
   apply propext
   omega
theorem CheckProgram_any {m n : Nat} (qs : Pg.Sl) (p : List (Pg.FT m n)) (w : World) (hp : Pg.RP w m n qs p) :
  Calls Try.prog 5 #[.agg #[.slice qs.ad qs.len qs.cap]] w fun r w' => r = .returned (.int .i64 (Pg.chkP p : Nat)) ∧ Below w.heap.size w w' := by
 obtain ⟨qa, ql, qc⟩ := qs
 dsimp only
 have hql : ql = p.length := hp.len
 have hqf : ql ≤ 35184372088832 := by rw [hql]; exact hp.few
 have hb0 := (Below.refl w.heap.size w).alloc (Nat.le_refl _) (Obj.cells #[.slice qa ql qc] 29)
 have hlp : w.heap.size < (w.alloc (Obj.cells #[.slice qa ql qc] 29)).heap.size := by simp
 have p0 : (w.alloc (Obj.cells #[.slice qa ql qc] 29)).cell? ⟨w.heap.size, 0, none⟩ = some (.slice qa ql qc) := by go_simp
 obtain ⟨R, hR⟩ : ∃ R, R = Pg.chkP p := ⟨_, rfl⟩
 rw [← hR]
 refine calls_of_wp Try.func5 rfl ?_
 rw [show Try.f5.ntmps - (#[.agg #[.slice qa ql qc]] : Array Value).size = 139 by rw [Try.ntmps5]; rfl]
 obtain ⟨T0, hT0⟩ : ∃ T0, T0 = #[.agg #[.slice qa ql qc]] ++ Array.replicate 139 undef := ⟨_, rfl⟩
 have hT : T0.size = 140 := by rw [hT0, Array.size_append, Array.size_replicate]; rfl
 have s0 : T0[0]? = some (.agg #[.slice qa ql qc]) := by rw [hT0]; simp
 rw [← hT0]
 clear hT0
 refine wp_seq ?_
 refine Fq.at_ Try.f5 0 (by kernel_rfl) ?_
 refine cp_r0 hT s0 (fun U1 ⟨k1, h1⟩ => ?_)
 generalize w.alloc (Obj.cells #[.slice qa ql qc] 29) = W0 at *
 have z1 := k1.size.trans hT
 refine Fq.ok ?_
 refine wp_seq ?_
 refine Fq.at_ Try.f5 1 (by kernel_rfl) ?_
 refine cp_r1 z1 h1 p0 (fun U2 ⟨k2, h3⟩ => ?_)
 have z2 := k2.size.trans z1
 have h1b := (k2.at_ 1 (by omega)).trans h1
 refine Fq.ok ?_
 refine wp_seq (wp_seq ?_)
 refine Fq.at_ Try.f5 2 (by kernel_rfl) ?_
 refine cp_r2 z2 h3 rfl (fun U3 ⟨k3, h16⟩ => ?_)
 have z3 := k3.size.trans z2
 refine Fq.ok ?_
 refine Fq.cond 16 h16 (fun hb => ?_) (fun hb => ?_)
 · have hRv : R = 1 := by rw [hR]; unfold Pg.chkP; rw [if_pos (by rw [← hql]; exact of_decide_eq_true hb)]
   refine wp_seq ?_
   refine Fq.at_ Try.f5 3 (by kernel_rfl) ?_
   refine cp_r3 z3 (fun U' ⟨_, h2⟩ => ?_)
   refine Fq.ok (wp_ret ?_)
   repeat (first | with_reducible refine Fq.thR ?_ | with_reducible refine Fq.blR ?_)
   exact Fq.ret rfl h2 ⟨by rw [hRv]; rfl, hb0⟩
 have hq0 : ¬ ql = 0 := of_decide_eq_false hb
 refine Fq.skip (Fq.ok ?_)
 refine wp_seq (wp_seq ?_)
 refine Fq.at_ Try.f5 4 (by kernel_rfl) ?_
 refine cp_r4 z3 ((k3.at_ 3 (by omega)).trans h3) rfl (fun U4 ⟨k4, h18⟩ => ?_)
 have z4 := k4.size.trans z3
 refine Fq.ok ?_
 refine Fq.cond 18 h18 (fun hb => ?_) (fun hb => ?_)
 · have hRv : R = 2 := by rw [hR]; unfold Pg.chkP; rw [if_neg (by rw [← hql]; exact hq0), if_pos (by rw [← hql]; have := of_decide_eq_true hb; omega)]
   refine wp_seq ?_
   refine Fq.at_ Try.f5 5 (by kernel_rfl) ?_
   refine cp_r5 z4 (fun U' ⟨_, h2⟩ => ?_)
   refine Fq.ok (wp_ret ?_)
   repeat (first | with_reducible refine Fq.thR ?_ | with_reducible refine Fq.blR ?_)
   exact Fq.ret rfl h2 ⟨by rw [hRv]; rfl, hb0⟩
 have hq6 : ql ≤ 6 := by have := of_decide_eq_false hb; omega
 have hR1 : R = if Pg.manyP p then 2 else Pg.first (Pg.wfns p) := by rw [hR]; unfold Pg.chkP; rw [if_neg (by rw [← hql]; exact hq0), if_neg (by rw [← hql]; omega)]
 obtain ⟨b, o, hqa⟩ : ∃ b o, qa = some ⟨b, o, none⟩ := by
  obtain ⟨b, o, _, h, _⟩ := hp.at_ 0 _ (List.getElem?_eq_getElem (by omega))
  exact ⟨b, o, h⟩
 subst hqa
 refine Fq.skip (Fq.ok ?_)
 have h1c := (k4.at_ 1 (by omega)).trans ((k3.at_ 1 (by omega)).trans h1b)
 have h3c := (k4.at_ 3 (by omega)).trans ((k3.at_ 3 (by omega)).trans h3)
 clear hb h18 h16 k4 k3 k2 k1 h1 h1b h3 z1 z2 z3 hR hT s0
 refine wp_seq ?_
 refine Fq.at_ Try.f5 6 (by kernel_rfl) ?_
 refine cp_r6 z4 (fun U5 ⟨k5, h4⟩ => ?_)
 have z5 := k5.size.trans z4
 refine Fq.ok ?_
 refine wp_seq (wp_seq ?_)
 refine Fq.at_ Try.f5 7 (by kernel_rfl) ?_
 refine cp_r7 z5 (fun U6 ⟨k6, h5⟩ => ?_)
 refine Fq.ok ?_
 refine wp_block ?_
 refine wp_loop_ghost (fun d a v => ∃ (U' : Array Value) (i : Nat), a = ⟨U', []⟩ ∧ i ≤ ql ∧ d = ql - i ∧ U'.size = 140 ∧ U'[1]? = some (.pointer (some ⟨w.heap.size, 0, none⟩)) ∧ U'[3]? = some (.int .i64 (ql : Nat)) ∧ U'[4]? = some (.int .i64 ((Pg.sumTo (fun x : Pg.FT m n => Pg.mny 1 x.cmds) p i : Nat) : Int)) ∧ U'[5]? = some (.int .i64 (i : Nat)) ∧ Pg.sumTo (fun x : Pg.FT m n => Pg.mny 1 x.cmds) p i ≤ 41 * i ∧ Below W0.heap.size W0 v) ql ⟨U6, 0, rfl, Nat.zero_le _, rfl, k6.size.trans z5, (k6.at_ 1 (by omega)).trans ((k5.at_ 1 (by omega)).trans h1c), (k6.at_ 3 (by omega)).trans ((k5.at_ 3 (by omega)).trans h3c), (k6.at_ 4 (by omega)).trans h4, h5, Nat.le_refl _, Below.refl _ _⟩ ?_
 clear k6 k5 h4 h5 h1c h3c z4 z5
 rintro d a v ⟨Ua, i, rfl, hi, rfl, za, ha1, ha3, ha4, ha5, hsm, hbv⟩
 refine wp_seq (wp_seq ?_)
 refine Fq.at_ Try.f5 8 (by kernel_rfl) ?_
 refine cp_r8 za ha3 ha5 rfl (fun Ub ⟨kb, h21⟩ => ?_)
 have zb := kb.size.trans za
 refine Fq.ok ?_
 refine Fq.cond 21 h21 (fun hb => ?_) (fun hb => ?_)
 · have hlt : i < ql := by have := of_decide_eq_true hb; omega
   have hy := List.getElem?_eq_getElem (l := p) (i := i) (by omega)
   obtain ⟨b2, o2, ff, had, hbb, hlf, hrf⟩ := hp.at_ i _ hy
   have hsu := Pg.sumTo_succ (fun x : Pg.FT m n => Pg.mny 1 x.cmds) p i _ hy
   generalize hxd : p[i]'(by omega) = x at *
   have had2 : b2 = b ∧ o2 = o := by
    have h1 : (some ⟨b, o, none⟩ : Option Addr) = some ⟨b2, o2, none⟩ := had
    have h2 := Option.some.inj h1
    exact ⟨(congrArg Addr.block h2).symm, (congrArg Addr.off h2).symm⟩
   obtain ⟨rfl, rfl⟩ := had2
   have hbw := hb0.trans (hbv.mono hb0.size)
   have hlv := hlf.later hbw (Nat.le_refl _) hbb
   have hml := Pg.mny_le 1 x.cmds
   refine Fq.skip (Fq.ok ?_)
   refine wp_seq (wp_block ?_)
   refine Fq.at_ Try.f5 10 (by kernel_rfl) ?_
   refine cp_r10 (CA := Pg.mny 1 x.cmds) zb ((kb.at_ 1 (by omega)).trans ha1) ((kb.at_ 4 (by omega)).trans ha4) ((kb.at_ 5 (by omega)).trans ha5) ((hbv.cell (p := ⟨w.heap.size, 0, none⟩) hlp).trans p0) hlt hqf hlv.c2 (by omega) hml (ManyCmds_any n ff.cmds x.cmds v 1 (hrf.cmds.laterC hbw (Nat.le_refl _)) (by omega)) (fun Uc vc ⟨kc, hc4, hc5, hbc⟩ => ?_)
   refine Fq.blN (Fq.ok ?_)
   have zc := kc.size.trans zb
   refine Fq.at_ Try.f5 9 (by kernel_rfl) ?_
   refine cp_r9 zc hc5 (by omega) (fun Ud ⟨kd, hd5⟩ => ?_)
   exact ⟨ql - (i + 1), by omega, Ud, i + 1, rfl, by omega, rfl, kd.size.trans zc, (kd.at_ 1 (by omega)).trans ((kc.at_ 1 (by omega)).trans ((kb.at_ 1 (by omega)).trans ha1)), (kd.at_ 3 (by omega)).trans ((kc.at_ 3 (by omega)).trans ((kb.at_ 3 (by omega)).trans ha3)), by rw [kd.at_ 4 (by omega), hc4, hsu], hd5, by rw [hsu]; omega, hbv.trans (hbc.mono hbv.size)⟩
 have hie : i = ql := by have := of_decide_eq_false hb; omega
 refine wp_exit (Fq.thX (Fq.thX (Fq.blX (Fq.ok ?_))))
 have hmn : Pg.manyP p = decide (40 < Pg.sumTo (fun x : Pg.FT m n => Pg.mny 1 x.cmds) p i) := by rw [Cp.many, hie, hql, Pg.sumTo_all]
 have hb1 := (kb.at_ 1 (by omega)).trans ha1
 have hb3 := (kb.at_ 3 (by omega)).trans ha3
 have hbw := hb0.trans (hbv.mono hb0.size)
 refine wp_seq (wp_seq ?_)
 refine Fq.at_ Try.f5 11 (by kernel_rfl) ?_
 refine cp_r11 zb ((kb.at_ 4 (by omega)).trans ha4) rfl (fun Uc ⟨kc, h34⟩ => ?_)
 have zc := kc.size.trans zb
 refine Fq.ok ?_
 refine Fq.cond 34 h34 (fun hb2 => ?_) (fun hb2 => ?_)
 · have hRv : R = 2 := by rw [hR1, hmn, if_pos (decide_eq_true (by have := of_decide_eq_true hb2; omega))]
   refine wp_seq ?_
   refine Fq.at_ Try.f5 12 (by kernel_rfl) ?_
   refine cp_r12 zc (fun U' ⟨_, h2⟩ => ?_)
   refine Fq.ok (wp_ret ?_)
   repeat (first | with_reducible refine Fq.thR ?_ | with_reducible refine Fq.blR ?_)
   exact Fq.ret rfl h2 ⟨by rw [hRv]; rfl, hbw⟩
 have hR2 : R = Pg.first (Pg.wfns p) := by rw [hR1, hmn, if_neg (by rw [decide_eq_false (by have := of_decide_eq_false hb2; omega)]; decide)]
 refine Fq.skip (Fq.ok ?_)
 have hc1 := (kc.at_ 1 (by omega)).trans hb1
 have hc3 := (kc.at_ 3 (by omega)).trans hb3
 clear hb hb2 h34 h21 kb kc hb1 hb3 ha1 ha3 ha4 ha5 hsm hmn hR1 za zb hie
 refine wp_seq (wp_seq ?_)
 refine Fq.at_ Try.f5 13 (by kernel_rfl) ?_
 refine cp_r13 zc (fun Ud ⟨kd, h6⟩ => ?_)
 refine Fq.ok ?_
 refine wp_block ?_
 refine wp_loop_ghost (fun d a u => ∃ (U' : Array Value) (i : Nat), a = ⟨U', []⟩ ∧ i ≤ ql ∧ d = ql - i ∧ Cp.F U' w.heap.size ql i ∧ R = Pg.first ((Pg.wfns p).drop i) ∧ Below v.heap.size v u) ql ⟨Ud, 0, rfl, Nat.zero_le _, rfl, ⟨kd.size.trans zc, (kd.at_ 1 (by omega)).trans hc1, (kd.at_ 3 (by omega)).trans hc3, h6⟩, by rw [List.drop_zero]; exact hR2, Below.refl _ _⟩ ?_
 clear kd h6 hc1 hc3 zc hR2
 rintro d a u ⟨Ua, k, rfl, hk, rfl, hFa, hRk, hbu⟩
 have hbw2 := hbw.trans (hbu.mono hbw.size)
 have hb02 := hbv.trans (hbu.mono hbv.size)
 refine wp_seq (wp_seq ?_)
 refine Fq.at_ Try.f5 14 (by kernel_rfl) ?_
 refine cp_r14 hFa.size hFa.s3 hFa.s6 rfl (fun Ub ⟨kb, h37⟩ => ?_)
 have hFb := hFa.kp (kb.mono (by omega))
 refine Fq.ok ?_
 refine Fq.cond 37 h37 (fun hb => ?_) (fun hb => ?_)
 · have hlt : k < ql := by have := of_decide_eq_true hb; omega
   have hkp : k < p.length := by omega
   have hy := List.getElem?_eq_getElem (l := p) (i := k) hkp
   obtain ⟨b2, o2, ff, had, hbb, hlf, hrf⟩ := hp.at_ k _ hy
   have had2 : b2 = b ∧ o2 = o := by
    have h1 : (some ⟨b, o, none⟩ : Option Addr) = some ⟨b2, o2, none⟩ := had
    have h2 := Option.some.inj h1
    exact ⟨(congrArg Addr.block h2).symm, (congrArg Addr.off h2).symm⟩
   obtain ⟨rfl, rfl⟩ := had2
   have hRN : R = if Pg.wfn p k p[k] = 0 then Pg.first ((Pg.wfns p).drop (k + 1)) else Pg.wfn p k p[k] := by
    have hkl : k < (Pg.wfns p).length := by unfold Pg.wfns; rw [List.length_mapIdx]; exact hkp
    rw [hRk, List.drop_eq_getElem_cons hkl]
    have : (Pg.wfns p)[k] = Pg.wfn p k p[k] := List.getElem_mapIdx (f := fun i x => Pg.wfn p i x) (l := p) (i := k) (h := hkl)
    rw [this]
    rfl
   refine Fq.skip (Fq.ok ?_)
   refine wp_seq (wp_block ?_)
   refine Fq.in_ Try.f5 3 (by kernel_rfl) ?_
   refine cp_round b2 o2 ql qc p hq6 w hp u hbw2 w.heap.size ((hb02.cell (p := ⟨w.heap.size, 0, none⟩) hlp).trans p0) (by have := hb02.size; omega) k hlt p[k] ff (hlf.later hbw2 (Nat.le_refl _) hbb) hrf Ub hFb _ (fun Uc uc hFc hbc hw0 => ?_) (fun Uc uc h2 hbc hwn => ?_)
   · refine Fq.blN (Fq.ok ?_)
     refine Fq.at_ Try.f5 15 (by kernel_rfl) ?_
     refine cp_r15 hFc.size hFc.s6 (by omega) (fun Ud ⟨kd, hd6⟩ => ?_)
     exact ⟨ql - (k + 1), by omega, Ud, k + 1, rfl, by omega, rfl, ⟨kd.size.trans hFc.size, (kd.at_ 1 (by omega)).trans hFc.s1, (kd.at_ 3 (by omega)).trans hFc.s3, hd6⟩, by rw [hRN, if_pos hw0], hbu.trans (hbc.mono hbu.size)⟩
   · repeat (first | with_reducible refine Fq.thR ?_ | with_reducible refine Fq.blR ?_)
     refine Fq.ret rfl h2 ⟨by rw [hRN, if_neg hwn], hbw2.trans (hbc.mono hbw2.size)⟩
 have hke : k = ql := by have := of_decide_eq_false hb; omega
 refine wp_exit (Fq.thX (Fq.thX (Fq.blX (Fq.ok ?_))))
 have hR0 : R = 0 := by rw [hRk, List.drop_eq_nil_of_le (by unfold Pg.wfns; rw [List.length_mapIdx]; omega)]; rfl
 refine wp_seq ?_
 refine Fq.at_ Try.f5 43 (by kernel_rfl) ?_
 refine cp_r43 hFb.size (fun U' ⟨_, h2⟩ => ?_)
 refine Fq.ok (wp_ret ?_)
 exact Fq.ret rfl h2 ⟨by rw [hR0]; rfl, hbw2⟩
end Go.Proofs.Ytpfogjplnodacaa
