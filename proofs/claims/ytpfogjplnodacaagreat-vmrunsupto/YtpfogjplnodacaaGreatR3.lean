/-
  RDa, RDb, RDw. By the verifier.
-/
import Derived.Test.YtpfogjplnodacaaGreatR1
import Derived.Deep.RegionLaw
set_option maxRecDepth 100000
set_option maxHeartbeats 1600000
namespace Go.Proofs.YtpfogjplnodacaaGreat
open Go.RowKit Go.Maps
set_option linter.unusedVariables false
section
variable {T : Array Value} {w : World} {Q : Exit → Act → World → Prop} {bm g c : Nat}
theorem rd_r0 {k6 : Nat} (hT : T.size = 401) (s0 : T[0]? = some (.pointer (some ⟨bm, 0, none⟩))) (hc : Calls Tryz.prog 41 #[.pointer (some ⟨bm, 0, none⟩)] w fun r w' => r = .returned (.pointer (some ⟨g, k6, none⟩)) ∧ Below w.heap.size w w')
  (hQ : ∀ T' w', (Fq.Kp 2 T T' ∧ T'[2]? = some (.pointer (some ⟨g, k6, none⟩)) ∧ Below w.heap.size w w') → Q .normal ⟨T', []⟩ w') : (Fq.reg Tryz.f22 0).wp Tryz.prog Q ⟨T, []⟩ w := by
 have a0 := fun h => Fq.el s0 h
 have d0 := Fq.gd s0
 have hu : undef = Value.tuple #[] := rfl
 have HQ := hide hQ
 clear hQ
 conv => arg 2; whnf
 have HC := hide hc
 clear hc
 go_wp2_with (with_reducible refine (Calls.mono (unhide HC) ?_); rintro r w2 ⟨rfl, hb2⟩; have HB := hide hb2; clear hb2)
 exact (unhide HQ) _ _ ⟨(by (repeat (with_reducible refine Fq.Kp.set ?_ (by decide) _)); with_reducible exact Fq.Kp.refl _ _), Fq.set_at _ (by simp [hT]) _, unhide HB⟩
theorem rd_r2 {lo : Bool} (hT : T.size = 401) (s0 : T[0]? = some (.pointer (some ⟨bm, 0, none⟩))) (h10 : w.cell? ⟨bm, 10, none⟩ = some (.bool lo)) (hf : w.frozen? ⟨bm, 10, none⟩ = false)
  (hQ : ∀ T', (Fq.Kp 16 T T') → Q .normal ⟨T', []⟩ (w.setCell ⟨bm, 10, none⟩ (.bool true))) : (Fq.reg Tryz.f22 2).wp Tryz.prog Q ⟨T, []⟩ w := by
 have a0 := fun h => Fq.el s0 h
 have d0 := Fq.gd s0
 have hu : undef = Value.tuple #[] := rfl
 have HQ := hide hQ
 clear hQ
 conv => arg 2; whnf
 go_wp2_with fail
 exact (unhide HQ) _ (by (repeat (with_reducible refine Fq.Kp.set ?_ (by decide) _)); with_reducible exact Fq.Kp.refl _ _)
theorem rd_r65 {lo : Bool} (hT : T.size = 401) (s0 : T[0]? = some (.pointer (some ⟨bm, 0, none⟩))) (h10 : w.cell? ⟨bm, 10, none⟩ = some (.bool lo)) (hf : w.frozen? ⟨bm, 10, none⟩ = false)
  (hQ : ∀ T', (Fq.Kp 16 T T') → Q .normal ⟨T', []⟩ (w.setCell ⟨bm, 10, none⟩ (.bool true))) : (Fq.reg Tryz.f22 65).wp Tryz.prog Q ⟨T, []⟩ w := by
 have a0 := fun h => Fq.el s0 h
 have d0 := Fq.gd s0
 have hu : undef = Value.tuple #[] := rfl
 have HQ := hide hQ
 clear hQ
 conv => arg 2; whnf
 go_wp2_with fail
 exact (unhide HQ) _ (by (repeat (with_reducible refine Fq.Kp.set ?_ (by decide) _)); with_reducible exact Fq.Kp.refl _ _)
theorem rd_r71 {lo : Bool} (hT : T.size = 401) (s0 : T[0]? = some (.pointer (some ⟨bm, 0, none⟩))) (h10 : w.cell? ⟨bm, 10, none⟩ = some (.bool lo)) (hf : w.frozen? ⟨bm, 10, none⟩ = false)
  (hQ : ∀ T', (Fq.Kp 16 T T') → Q .normal ⟨T', []⟩ (w.setCell ⟨bm, 10, none⟩ (.bool true))) : (Fq.reg Tryz.f22 71).wp Tryz.prog Q ⟨T, []⟩ w := by
 have a0 := fun h => Fq.el s0 h
 have d0 := Fq.gd s0
 have hu : undef = Value.tuple #[] := rfl
 have HQ := hide hQ
 clear hQ
 conv => arg 2; whnf
 go_wp2_with fail
 exact (unhide HQ) _ (by (repeat (with_reducible refine Fq.Kp.set ?_ (by decide) _)); with_reducible exact Fq.Kp.refl _ _)
theorem rd_r4 {k6 pc : Nat} (hT : T.size = 401) (s2 : T[2]? = some (.pointer (some ⟨g, k6, none⟩))) (h2 : w.cell? ⟨g, k6 + 2, none⟩ = some (.int .i64 (pc : Nat))) (hf : w.frozen? ⟨g, k6 + 2, none⟩ = false) (hpc : pc ≤ 3000)
  (hQ : ∀ T', (Fq.Kp 16 T T') → Q .normal ⟨T', []⟩ (w.setCell ⟨g, k6 + 2, none⟩ (.int .i64 ((pc + 1 : Nat) : Int)))) : (Fq.reg Tryz.f22 4).wp Tryz.prog Q ⟨T, []⟩ w := by
 have a2 := fun h => Fq.el s2 h
 have d2 := Fq.gd s2
 have hu : undef = Value.tuple #[] := rfl
 have HQ := hide hQ
 clear hQ
 conv => arg 2; whnf
 have hw0 : IntKind.i64.wrap ((pc : Int) + 1) = (pc : Int) + 1 := by rw [IntKind.wrap_i64]; omega
 have hc : ((pc + 1 : Nat) : Int) = (pc : Int) + 1 := by omega
 rw [hc] at HQ
 go_wp2_with fail
 exact (unhide HQ) _ (by (repeat (with_reducible refine Fq.Kp.set ?_ (by decide) _)); with_reducible exact Fq.Kp.refl _ _)
theorem rd_r5 {b3 : Nat} {xk : Int} (hT : T.size = 401) (s3 : T[3]? = some (.pointer (some ⟨b3, 0, none⟩))) (x0 : w.cell? ⟨b3, 0, none⟩ = some (.int .i64 xk))
  (hQ : ∀ T', (Fq.Kp 16 T T' ∧ T'[51]? = some (.int .i64 xk)) → Q .normal ⟨T', []⟩ (w)) : (Fq.reg Tryz.f22 5).wp Tryz.prog Q ⟨T, []⟩ w := by
 have a3 := fun h => Fq.el s3 h
 have d3 := Fq.gd s3
 have hu : undef = Value.tuple #[] := rfl
 have HQ := hide hQ
 clear hQ
 conv => arg 2; whnf
 go_wp2_with fail
 exact (unhide HQ) _ ⟨(by (repeat (with_reducible refine Fq.Kp.set ?_ (by decide) _)); with_reducible exact Fq.Kp.refl _ _), Fq.set_at _ (by simp [hT]) _⟩
theorem rd_r6 {xk : Int} {VB : Bool} (hT : T.size = 401) (s51 : T[51]? = some (.int .i64 xk)) (hVB : VB = decide (xk = 1))
  (hQ : ∀ T', (Fq.Kp 16 T T' ∧ T'[52]? = some (.bool VB) ∧ T'[51]? = some (.int .i64 xk)) → Q .normal ⟨T', []⟩ (w)) : (Fq.reg Tryz.f22 6).wp Tryz.prog Q ⟨T, []⟩ w := by
 have a51 := fun h => Fq.el s51 h
 have d51 := Fq.gd s51
 have hu : undef = Value.tuple #[] := rfl
 have HQ := hide hQ
 clear hQ
 conv => arg 2; whnf
 by_cases hR : xk = 1
 · have HV3 := hide (show VB = true by rw [hVB, decide_eq_true hR])
   have b0 : (xk == 1) = true := by simp [hR]
   clear hVB hR
   go_wp2_with fail
   exact (unhide HQ) _ ⟨(by (repeat (with_reducible refine Fq.Kp.set ?_ (by decide) _)); with_reducible exact Fq.Kp.refl _ _), (Fq.set_at _ (by simp [hT]) _).trans (by rw [unhide HV3] <;> rfl), (by (repeat (with_reducible refine (Fq.set_ne _ (by decide) _).trans ?_)); exact s51)⟩
 · have HV3 := hide (show VB = false by rw [hVB, decide_eq_false hR])
   have b0 : (xk == 1) = false := by simpa using hR
   clear hVB hR
   go_wp2_with fail
   exact (unhide HQ) _ ⟨(by (repeat (with_reducible refine Fq.Kp.set ?_ (by decide) _)); with_reducible exact Fq.Kp.refl _ _), (Fq.set_at _ (by simp [hT]) _).trans (by rw [unhide HV3] <;> rfl), (by (repeat (with_reducible refine (Fq.set_ne _ (by decide) _).trans ?_)); exact s51)⟩
theorem rd_r12 {xk : Int} {VB : Bool} (hT : T.size = 401) (s51 : T[51]? = some (.int .i64 xk)) (hVB : VB = decide (xk = 2))
  (hQ : ∀ T', (Fq.Kp 16 T T' ∧ T'[83]? = some (.bool VB) ∧ T'[51]? = some (.int .i64 xk)) → Q .normal ⟨T', []⟩ (w)) : (Fq.reg Tryz.f22 12).wp Tryz.prog Q ⟨T, []⟩ w := by
 have a51 := fun h => Fq.el s51 h
 have d51 := Fq.gd s51
 have hu : undef = Value.tuple #[] := rfl
 have HQ := hide hQ
 clear hQ
 conv => arg 2; whnf
 by_cases hR : xk = 2
 · have HV3 := hide (show VB = true by rw [hVB, decide_eq_true hR])
   have b0 : (xk == 2) = true := by simp [hR]
   clear hVB hR
   go_wp2_with fail
   exact (unhide HQ) _ ⟨(by (repeat (with_reducible refine Fq.Kp.set ?_ (by decide) _)); with_reducible exact Fq.Kp.refl _ _), (Fq.set_at _ (by simp [hT]) _).trans (by rw [unhide HV3] <;> rfl), (by (repeat (with_reducible refine (Fq.set_ne _ (by decide) _).trans ?_)); exact s51)⟩
 · have HV3 := hide (show VB = false by rw [hVB, decide_eq_false hR])
   have b0 : (xk == 2) = false := by simpa using hR
   clear hVB hR
   go_wp2_with fail
   exact (unhide HQ) _ ⟨(by (repeat (with_reducible refine Fq.Kp.set ?_ (by decide) _)); with_reducible exact Fq.Kp.refl _ _), (Fq.set_at _ (by simp [hT]) _).trans (by rw [unhide HV3] <;> rfl), (by (repeat (with_reducible refine (Fq.set_ne _ (by decide) _).trans ?_)); exact s51)⟩
theorem rd_r14 {xk : Int} {VB : Bool} (hT : T.size = 401) (s51 : T[51]? = some (.int .i64 xk)) (hVB : VB = decide (xk = 3))
  (hQ : ∀ T', (Fq.Kp 16 T T' ∧ T'[89]? = some (.bool VB) ∧ T'[51]? = some (.int .i64 xk)) → Q .normal ⟨T', []⟩ (w)) : (Fq.reg Tryz.f22 14).wp Tryz.prog Q ⟨T, []⟩ w := by
 have a51 := fun h => Fq.el s51 h
 have d51 := Fq.gd s51
 have hu : undef = Value.tuple #[] := rfl
 have HQ := hide hQ
 clear hQ
 conv => arg 2; whnf
 by_cases hR : xk = 3
 · have HV3 := hide (show VB = true by rw [hVB, decide_eq_true hR])
   have b0 : (xk == 3) = true := by simp [hR]
   clear hVB hR
   go_wp2_with fail
   exact (unhide HQ) _ ⟨(by (repeat (with_reducible refine Fq.Kp.set ?_ (by decide) _)); with_reducible exact Fq.Kp.refl _ _), (Fq.set_at _ (by simp [hT]) _).trans (by rw [unhide HV3] <;> rfl), (by (repeat (with_reducible refine (Fq.set_ne _ (by decide) _).trans ?_)); exact s51)⟩
 · have HV3 := hide (show VB = false by rw [hVB, decide_eq_false hR])
   have b0 : (xk == 3) = false := by simpa using hR
   clear hVB hR
   go_wp2_with fail
   exact (unhide HQ) _ ⟨(by (repeat (with_reducible refine Fq.Kp.set ?_ (by decide) _)); with_reducible exact Fq.Kp.refl _ _), (Fq.set_at _ (by simp [hT]) _).trans (by rw [unhide HV3] <;> rfl), (by (repeat (with_reducible refine (Fq.set_ne _ (by decide) _).trans ?_)); exact s51)⟩
theorem rd_r17 {xk : Int} {VB : Bool} (hT : T.size = 401) (s51 : T[51]? = some (.int .i64 xk)) (hVB : VB = decide (xk = 4))
  (hQ : ∀ T', (Fq.Kp 16 T T' ∧ T'[107]? = some (.bool VB) ∧ T'[51]? = some (.int .i64 xk)) → Q .normal ⟨T', []⟩ (w)) : (Fq.reg Tryz.f22 17).wp Tryz.prog Q ⟨T, []⟩ w := by
 have a51 := fun h => Fq.el s51 h
 have d51 := Fq.gd s51
 have hu : undef = Value.tuple #[] := rfl
 have HQ := hide hQ
 clear hQ
 conv => arg 2; whnf
 by_cases hR : xk = 4
 · have HV3 := hide (show VB = true by rw [hVB, decide_eq_true hR])
   have b0 : (xk == 4) = true := by simp [hR]
   clear hVB hR
   go_wp2_with fail
   exact (unhide HQ) _ ⟨(by (repeat (with_reducible refine Fq.Kp.set ?_ (by decide) _)); with_reducible exact Fq.Kp.refl _ _), (Fq.set_at _ (by simp [hT]) _).trans (by rw [unhide HV3] <;> rfl), (by (repeat (with_reducible refine (Fq.set_ne _ (by decide) _).trans ?_)); exact s51)⟩
 · have HV3 := hide (show VB = false by rw [hVB, decide_eq_false hR])
   have b0 : (xk == 4) = false := by simpa using hR
   clear hVB hR
   go_wp2_with fail
   exact (unhide HQ) _ ⟨(by (repeat (with_reducible refine Fq.Kp.set ?_ (by decide) _)); with_reducible exact Fq.Kp.refl _ _), (Fq.set_at _ (by simp [hT]) _).trans (by rw [unhide HV3] <;> rfl), (by (repeat (with_reducible refine (Fq.set_ne _ (by decide) _).trans ?_)); exact s51)⟩
theorem rd_r23 {xk : Int} {VB : Bool} (hT : T.size = 401) (s51 : T[51]? = some (.int .i64 xk)) (hVB : VB = decide (xk = 5))
  (hQ : ∀ T', (Fq.Kp 16 T T' ∧ T'[154]? = some (.bool VB) ∧ T'[51]? = some (.int .i64 xk)) → Q .normal ⟨T', []⟩ (w)) : (Fq.reg Tryz.f22 23).wp Tryz.prog Q ⟨T, []⟩ w := by
 have a51 := fun h => Fq.el s51 h
 have d51 := Fq.gd s51
 have hu : undef = Value.tuple #[] := rfl
 have HQ := hide hQ
 clear hQ
 conv => arg 2; whnf
 by_cases hR : xk = 5
 · have HV3 := hide (show VB = true by rw [hVB, decide_eq_true hR])
   have b0 : (xk == 5) = true := by simp [hR]
   clear hVB hR
   go_wp2_with fail
   exact (unhide HQ) _ ⟨(by (repeat (with_reducible refine Fq.Kp.set ?_ (by decide) _)); with_reducible exact Fq.Kp.refl _ _), (Fq.set_at _ (by simp [hT]) _).trans (by rw [unhide HV3] <;> rfl), (by (repeat (with_reducible refine (Fq.set_ne _ (by decide) _).trans ?_)); exact s51)⟩
 · have HV3 := hide (show VB = false by rw [hVB, decide_eq_false hR])
   have b0 : (xk == 5) = false := by simpa using hR
   clear hVB hR
   go_wp2_with fail
   exact (unhide HQ) _ ⟨(by (repeat (with_reducible refine Fq.Kp.set ?_ (by decide) _)); with_reducible exact Fq.Kp.refl _ _), (Fq.set_at _ (by simp [hT]) _).trans (by rw [unhide HV3] <;> rfl), (by (repeat (with_reducible refine (Fq.set_ne _ (by decide) _).trans ?_)); exact s51)⟩
theorem rd_r31 {xk : Int} {VB : Bool} (hT : T.size = 401) (s51 : T[51]? = some (.int .i64 xk)) (hVB : VB = decide (xk = 6))
  (hQ : ∀ T', (Fq.Kp 16 T T' ∧ T'[184]? = some (.bool VB) ∧ T'[51]? = some (.int .i64 xk)) → Q .normal ⟨T', []⟩ (w)) : (Fq.reg Tryz.f22 31).wp Tryz.prog Q ⟨T, []⟩ w := by
 have a51 := fun h => Fq.el s51 h
 have d51 := Fq.gd s51
 have hu : undef = Value.tuple #[] := rfl
 have HQ := hide hQ
 clear hQ
 conv => arg 2; whnf
 by_cases hR : xk = 6
 · have HV3 := hide (show VB = true by rw [hVB, decide_eq_true hR])
   have b0 : (xk == 6) = true := by simp [hR]
   clear hVB hR
   go_wp2_with fail
   exact (unhide HQ) _ ⟨(by (repeat (with_reducible refine Fq.Kp.set ?_ (by decide) _)); with_reducible exact Fq.Kp.refl _ _), (Fq.set_at _ (by simp [hT]) _).trans (by rw [unhide HV3] <;> rfl), (by (repeat (with_reducible refine (Fq.set_ne _ (by decide) _).trans ?_)); exact s51)⟩
 · have HV3 := hide (show VB = false by rw [hVB, decide_eq_false hR])
   have b0 : (xk == 6) = false := by simpa using hR
   clear hVB hR
   go_wp2_with fail
   exact (unhide HQ) _ ⟨(by (repeat (with_reducible refine Fq.Kp.set ?_ (by decide) _)); with_reducible exact Fq.Kp.refl _ _), (Fq.set_at _ (by simp [hT]) _).trans (by rw [unhide HV3] <;> rfl), (by (repeat (with_reducible refine (Fq.set_ne _ (by decide) _).trans ?_)); exact s51)⟩
theorem rd_r35 {xk : Int} {VB : Bool} (hT : T.size = 401) (s51 : T[51]? = some (.int .i64 xk)) (hVB : VB = decide (xk = 7))
  (hQ : ∀ T', (Fq.Kp 16 T T' ∧ T'[208]? = some (.bool VB) ∧ T'[51]? = some (.int .i64 xk)) → Q .normal ⟨T', []⟩ (w)) : (Fq.reg Tryz.f22 35).wp Tryz.prog Q ⟨T, []⟩ w := by
 have a51 := fun h => Fq.el s51 h
 have d51 := Fq.gd s51
 have hu : undef = Value.tuple #[] := rfl
 have HQ := hide hQ
 clear hQ
 conv => arg 2; whnf
 by_cases hR : xk = 7
 · have HV3 := hide (show VB = true by rw [hVB, decide_eq_true hR])
   have b0 : (xk == 7) = true := by simp [hR]
   clear hVB hR
   go_wp2_with fail
   exact (unhide HQ) _ ⟨(by (repeat (with_reducible refine Fq.Kp.set ?_ (by decide) _)); with_reducible exact Fq.Kp.refl _ _), (Fq.set_at _ (by simp [hT]) _).trans (by rw [unhide HV3] <;> rfl), (by (repeat (with_reducible refine (Fq.set_ne _ (by decide) _).trans ?_)); exact s51)⟩
 · have HV3 := hide (show VB = false by rw [hVB, decide_eq_false hR])
   have b0 : (xk == 7) = false := by simpa using hR
   clear hVB hR
   go_wp2_with fail
   exact (unhide HQ) _ ⟨(by (repeat (with_reducible refine Fq.Kp.set ?_ (by decide) _)); with_reducible exact Fq.Kp.refl _ _), (Fq.set_at _ (by simp [hT]) _).trans (by rw [unhide HV3] <;> rfl), (by (repeat (with_reducible refine (Fq.set_ne _ (by decide) _).trans ?_)); exact s51)⟩
theorem rd_r42 {xk : Int} {VB : Bool} (hT : T.size = 401) (s51 : T[51]? = some (.int .i64 xk)) (hVB : VB = decide (xk = 8))
  (hQ : ∀ T', (Fq.Kp 16 T T' ∧ T'[254]? = some (.bool VB) ∧ T'[51]? = some (.int .i64 xk)) → Q .normal ⟨T', []⟩ (w)) : (Fq.reg Tryz.f22 42).wp Tryz.prog Q ⟨T, []⟩ w := by
 have a51 := fun h => Fq.el s51 h
 have d51 := Fq.gd s51
 have hu : undef = Value.tuple #[] := rfl
 have HQ := hide hQ
 clear hQ
 conv => arg 2; whnf
 by_cases hR : xk = 8
 · have HV3 := hide (show VB = true by rw [hVB, decide_eq_true hR])
   have b0 : (xk == 8) = true := by simp [hR]
   clear hVB hR
   go_wp2_with fail
   exact (unhide HQ) _ ⟨(by (repeat (with_reducible refine Fq.Kp.set ?_ (by decide) _)); with_reducible exact Fq.Kp.refl _ _), (Fq.set_at _ (by simp [hT]) _).trans (by rw [unhide HV3] <;> rfl), (by (repeat (with_reducible refine (Fq.set_ne _ (by decide) _).trans ?_)); exact s51)⟩
 · have HV3 := hide (show VB = false by rw [hVB, decide_eq_false hR])
   have b0 : (xk == 8) = false := by simpa using hR
   clear hVB hR
   go_wp2_with fail
   exact (unhide HQ) _ ⟨(by (repeat (with_reducible refine Fq.Kp.set ?_ (by decide) _)); with_reducible exact Fq.Kp.refl _ _), (Fq.set_at _ (by simp [hT]) _).trans (by rw [unhide HV3] <;> rfl), (by (repeat (with_reducible refine (Fq.set_ne _ (by decide) _).trans ?_)); exact s51)⟩
theorem rd_r50 {xk : Int} {VB : Bool} (hT : T.size = 401) (s51 : T[51]? = some (.int .i64 xk)) (hVB : VB = decide (xk = 9))
  (hQ : ∀ T', (Fq.Kp 16 T T' ∧ T'[297]? = some (.bool VB) ∧ T'[51]? = some (.int .i64 xk)) → Q .normal ⟨T', []⟩ (w)) : (Fq.reg Tryz.f22 50).wp Tryz.prog Q ⟨T, []⟩ w := by
 have a51 := fun h => Fq.el s51 h
 have d51 := Fq.gd s51
 have hu : undef = Value.tuple #[] := rfl
 have HQ := hide hQ
 clear hQ
 conv => arg 2; whnf
 by_cases hR : xk = 9
 · have HV3 := hide (show VB = true by rw [hVB, decide_eq_true hR])
   have b0 : (xk == 9) = true := by simp [hR]
   clear hVB hR
   go_wp2_with fail
   exact (unhide HQ) _ ⟨(by (repeat (with_reducible refine Fq.Kp.set ?_ (by decide) _)); with_reducible exact Fq.Kp.refl _ _), (Fq.set_at _ (by simp [hT]) _).trans (by rw [unhide HV3] <;> rfl), (by (repeat (with_reducible refine (Fq.set_ne _ (by decide) _).trans ?_)); exact s51)⟩
 · have HV3 := hide (show VB = false by rw [hVB, decide_eq_false hR])
   have b0 : (xk == 9) = false := by simpa using hR
   clear hVB hR
   go_wp2_with fail
   exact (unhide HQ) _ ⟨(by (repeat (with_reducible refine Fq.Kp.set ?_ (by decide) _)); with_reducible exact Fq.Kp.refl _ _), (Fq.set_at _ (by simp [hT]) _).trans (by rw [unhide HV3] <;> rfl), (by (repeat (with_reducible refine (Fq.set_ne _ (by decide) _).trans ?_)); exact s51)⟩
theorem rd_r54 {xk : Int} {VB : Bool} (hT : T.size = 401) (s51 : T[51]? = some (.int .i64 xk)) (hVB : VB = decide (xk = 10))
  (hQ : ∀ T', (Fq.Kp 16 T T' ∧ T'[313]? = some (.bool VB) ∧ T'[51]? = some (.int .i64 xk)) → Q .normal ⟨T', []⟩ (w)) : (Fq.reg Tryz.f22 54).wp Tryz.prog Q ⟨T, []⟩ w := by
 have a51 := fun h => Fq.el s51 h
 have d51 := Fq.gd s51
 have hu : undef = Value.tuple #[] := rfl
 have HQ := hide hQ
 clear hQ
 conv => arg 2; whnf
 by_cases hR : xk = 10
 · have HV3 := hide (show VB = true by rw [hVB, decide_eq_true hR])
   have b0 : (xk == 10) = true := by simp [hR]
   clear hVB hR
   go_wp2_with fail
   exact (unhide HQ) _ ⟨(by (repeat (with_reducible refine Fq.Kp.set ?_ (by decide) _)); with_reducible exact Fq.Kp.refl _ _), (Fq.set_at _ (by simp [hT]) _).trans (by rw [unhide HV3] <;> rfl), (by (repeat (with_reducible refine (Fq.set_ne _ (by decide) _).trans ?_)); exact s51)⟩
 · have HV3 := hide (show VB = false by rw [hVB, decide_eq_false hR])
   have b0 : (xk == 10) = false := by simpa using hR
   clear hVB hR
   go_wp2_with fail
   exact (unhide HQ) _ ⟨(by (repeat (with_reducible refine Fq.Kp.set ?_ (by decide) _)); with_reducible exact Fq.Kp.refl _ _), (Fq.set_at _ (by simp [hT]) _).trans (by rw [unhide HV3] <;> rfl), (by (repeat (with_reducible refine (Fq.set_ne _ (by decide) _).trans ?_)); exact s51)⟩
theorem rd_r56 {xk : Int} {VB : Bool} (hT : T.size = 401) (s51 : T[51]? = some (.int .i64 xk)) (hVB : VB = decide (xk = 11))
  (hQ : ∀ T', (Fq.Kp 16 T T' ∧ T'[320]? = some (.bool VB) ∧ T'[51]? = some (.int .i64 xk)) → Q .normal ⟨T', []⟩ (w)) : (Fq.reg Tryz.f22 56).wp Tryz.prog Q ⟨T, []⟩ w := by
 have a51 := fun h => Fq.el s51 h
 have d51 := Fq.gd s51
 have hu : undef = Value.tuple #[] := rfl
 have HQ := hide hQ
 clear hQ
 conv => arg 2; whnf
 by_cases hR : xk = 11
 · have HV3 := hide (show VB = true by rw [hVB, decide_eq_true hR])
   have b0 : (xk == 11) = true := by simp [hR]
   clear hVB hR
   go_wp2_with fail
   exact (unhide HQ) _ ⟨(by (repeat (with_reducible refine Fq.Kp.set ?_ (by decide) _)); with_reducible exact Fq.Kp.refl _ _), (Fq.set_at _ (by simp [hT]) _).trans (by rw [unhide HV3] <;> rfl), (by (repeat (with_reducible refine (Fq.set_ne _ (by decide) _).trans ?_)); exact s51)⟩
 · have HV3 := hide (show VB = false by rw [hVB, decide_eq_false hR])
   have b0 : (xk == 11) = false := by simpa using hR
   clear hVB hR
   go_wp2_with fail
   exact (unhide HQ) _ ⟨(by (repeat (with_reducible refine Fq.Kp.set ?_ (by decide) _)); with_reducible exact Fq.Kp.refl _ _), (Fq.set_at _ (by simp [hT]) _).trans (by rw [unhide HV3] <;> rfl), (by (repeat (with_reducible refine (Fq.set_ne _ (by decide) _).trans ?_)); exact s51)⟩
theorem rd_r60 {xk : Int} {VB : Bool} (hT : T.size = 401) (s51 : T[51]? = some (.int .i64 xk)) (hVB : VB = decide (xk = 12))
  (hQ : ∀ T', (Fq.Kp 16 T T' ∧ T'[331]? = some (.bool VB) ∧ T'[51]? = some (.int .i64 xk)) → Q .normal ⟨T', []⟩ (w)) : (Fq.reg Tryz.f22 60).wp Tryz.prog Q ⟨T, []⟩ w := by
 have a51 := fun h => Fq.el s51 h
 have d51 := Fq.gd s51
 have hu : undef = Value.tuple #[] := rfl
 have HQ := hide hQ
 clear hQ
 conv => arg 2; whnf
 by_cases hR : xk = 12
 · have HV3 := hide (show VB = true by rw [hVB, decide_eq_true hR])
   have b0 : (xk == 12) = true := by simp [hR]
   clear hVB hR
   go_wp2_with fail
   exact (unhide HQ) _ ⟨(by (repeat (with_reducible refine Fq.Kp.set ?_ (by decide) _)); with_reducible exact Fq.Kp.refl _ _), (Fq.set_at _ (by simp [hT]) _).trans (by rw [unhide HV3] <;> rfl), (by (repeat (with_reducible refine (Fq.set_ne _ (by decide) _).trans ?_)); exact s51)⟩
 · have HV3 := hide (show VB = false by rw [hVB, decide_eq_false hR])
   have b0 : (xk == 12) = false := by simpa using hR
   clear hVB hR
   go_wp2_with fail
   exact (unhide HQ) _ ⟨(by (repeat (with_reducible refine Fq.Kp.set ?_ (by decide) _)); with_reducible exact Fq.Kp.refl _ _), (Fq.set_at _ (by simp [hT]) _).trans (by rw [unhide HV3] <;> rfl), (by (repeat (with_reducible refine (Fq.set_ne _ (by decide) _).trans ?_)); exact s51)⟩
theorem rd_r62 {xk : Int} {VB : Bool} (hT : T.size = 401) (s51 : T[51]? = some (.int .i64 xk)) (hVB : VB = decide (xk = 13))
  (hQ : ∀ T', (Fq.Kp 16 T T' ∧ T'[336]? = some (.bool VB) ∧ T'[51]? = some (.int .i64 xk)) → Q .normal ⟨T', []⟩ (w)) : (Fq.reg Tryz.f22 62).wp Tryz.prog Q ⟨T, []⟩ w := by
 have a51 := fun h => Fq.el s51 h
 have d51 := Fq.gd s51
 have hu : undef = Value.tuple #[] := rfl
 have HQ := hide hQ
 clear hQ
 conv => arg 2; whnf
 by_cases hR : xk = 13
 · have HV3 := hide (show VB = true by rw [hVB, decide_eq_true hR])
   have b0 : (xk == 13) = true := by simp [hR]
   clear hVB hR
   go_wp2_with fail
   exact (unhide HQ) _ ⟨(by (repeat (with_reducible refine Fq.Kp.set ?_ (by decide) _)); with_reducible exact Fq.Kp.refl _ _), (Fq.set_at _ (by simp [hT]) _).trans (by rw [unhide HV3] <;> rfl), (by (repeat (with_reducible refine (Fq.set_ne _ (by decide) _).trans ?_)); exact s51)⟩
 · have HV3 := hide (show VB = false by rw [hVB, decide_eq_false hR])
   have b0 : (xk == 13) = false := by simpa using hR
   clear hVB hR
   go_wp2_with fail
   exact (unhide HQ) _ ⟨(by (repeat (with_reducible refine Fq.Kp.set ?_ (by decide) _)); with_reducible exact Fq.Kp.refl _ _), (Fq.set_at _ (by simp [hT]) _).trans (by rw [unhide HV3] <;> rfl), (by (repeat (with_reducible refine (Fq.set_ne _ (by decide) _).trans ?_)); exact s51)⟩
theorem rd_r69 {xk : Int} {VB : Bool} (hT : T.size = 401) (s51 : T[51]? = some (.int .i64 xk)) (hVB : VB = decide (xk = 14))
  (hQ : ∀ T', (Fq.Kp 16 T T' ∧ T'[388]? = some (.bool VB) ∧ T'[51]? = some (.int .i64 xk)) → Q .normal ⟨T', []⟩ (w)) : (Fq.reg Tryz.f22 69).wp Tryz.prog Q ⟨T, []⟩ w := by
 have a51 := fun h => Fq.el s51 h
 have d51 := Fq.gd s51
 have hu : undef = Value.tuple #[] := rfl
 have HQ := hide hQ
 clear hQ
 conv => arg 2; whnf
 by_cases hR : xk = 14
 · have HV3 := hide (show VB = true by rw [hVB, decide_eq_true hR])
   have b0 : (xk == 14) = true := by simp [hR]
   clear hVB hR
   go_wp2_with fail
   exact (unhide HQ) _ ⟨(by (repeat (with_reducible refine Fq.Kp.set ?_ (by decide) _)); with_reducible exact Fq.Kp.refl _ _), (Fq.set_at _ (by simp [hT]) _).trans (by rw [unhide HV3] <;> rfl), (by (repeat (with_reducible refine (Fq.set_ne _ (by decide) _).trans ?_)); exact s51)⟩
 · have HV3 := hide (show VB = false by rw [hVB, decide_eq_false hR])
   have b0 : (xk == 14) = false := by simpa using hR
   clear hVB hR
   go_wp2_with fail
   exact (unhide HQ) _ ⟨(by (repeat (with_reducible refine Fq.Kp.set ?_ (by decide) _)); with_reducible exact Fq.Kp.refl _ _), (Fq.set_at _ (by simp [hT]) _).trans (by rw [unhide HV3] <;> rfl), (by (repeat (with_reducible refine (Fq.set_ne _ (by decide) _).trans ?_)); exact s51)⟩
theorem rd_r8 {b3 : Nat} {xa : Int} (hT : T.size = 401) (s0 : T[0]? = some (.pointer (some ⟨bm, 0, none⟩))) (s3 : T[3]? = some (.pointer (some ⟨b3, 0, none⟩))) {R : World → Prop} (x1 : w.cell? ⟨b3, 1, none⟩ = some (.int .i64 xa)) (hc : Calls Tryz.prog 42 #[.pointer (some ⟨bm, 0, none⟩), .int .i64 xa, .int .i64 1] w fun r w' => r = .returned (.tuple #[]) ∧ R w')
  (hQ : ∀ T' w', (Fq.Kp 16 T T' ∧ R w') → Q .normal ⟨T', []⟩ w') : (Fq.reg Tryz.f22 8).wp Tryz.prog Q ⟨T, []⟩ w := by
 have a0 := fun h => Fq.el s0 h
 have d0 := Fq.gd s0
 have a3 := fun h => Fq.el s3 h
 have d3 := Fq.gd s3
 have hu : undef = Value.tuple #[] := rfl
 have HQ := hide hQ
 clear hQ
 conv => arg 2; whnf
 have HC := hide hc
 clear hc
 go_wp2_with (with_reducible refine (Calls.mono (unhide HC) ?_); rintro r w2 ⟨rfl, hb2⟩; have HB := hide hb2; clear hb2)
 exact (unhide HQ) _ _ ⟨(by (repeat (with_reducible refine Fq.Kp.set ?_ (by decide) _)); with_reducible exact Fq.Kp.refl _ _), unhide HB⟩
theorem rd_r9 {k : Nat} (hT : T.size = 401) (s0 : T[0]? = some (.pointer (some ⟨bm, 0, none⟩))) (h5 : w.cell? ⟨bm, 5, none⟩ = some (.int .i64 (k : Nat))) (hf : w.frozen? ⟨bm, 5, none⟩ = false) (hk : k ≤ 1000000)
  (hQ : ∀ T', (Fq.Kp 16 T T') → Q .normal ⟨T', []⟩ (w.setCell ⟨bm, 5, none⟩ (.int .i64 ((k + 1 : Nat) : Int)))) : (Fq.reg Tryz.f22 9).wp Tryz.prog Q ⟨T, []⟩ w := by
 have a0 := fun h => Fq.el s0 h
 have d0 := Fq.gd s0
 have hu : undef = Value.tuple #[] := rfl
 have HQ := hide hQ
 clear hQ
 conv => arg 2; whnf
 have hw0 : IntKind.i64.wrap ((k : Int) + 1) = (k : Int) + 1 := by rw [IntKind.wrap_i64]; omega
 have hc : ((k + 1 : Nat) : Int) = (k : Int) + 1 := by omega
 rw [hc] at HQ
 go_wp2_with fail
 exact (unhide HQ) _ (by (repeat (with_reducible refine Fq.Kp.set ?_ (by decide) _)); with_reducible exact Fq.Kp.refl _ _)
theorem rd_r10 {b3 k6 : Nat} {xa : Int} {v2 : Value} (hT : T.size = 401) (s2 : T[2]? = some (.pointer (some ⟨g, k6, none⟩))) (s3 : T[3]? = some (.pointer (some ⟨b3, 0, none⟩))) (x1 : w.cell? ⟨b3, 1, none⟩ = some (.int .i64 xa)) (h2 : w.cell? ⟨g, k6 + 3, none⟩ = some v2) (hf : w.frozen? ⟨g, k6 + 3, none⟩ = false)
  (hQ : ∀ T', (Fq.Kp 16 T T') → Q .normal ⟨T', []⟩ (w.setCell ⟨g, k6 + 3, none⟩ (.int .i64 xa))) : (Fq.reg Tryz.f22 10).wp Tryz.prog Q ⟨T, []⟩ w := by
 have a2 := fun h => Fq.el s2 h
 have d2 := Fq.gd s2
 have a3 := fun h => Fq.el s3 h
 have d3 := Fq.gd s3
 have hu : undef = Value.tuple #[] := rfl
 have HQ := hide hQ
 clear hQ
 conv => arg 2; whnf
 go_wp2_with fail
 exact (unhide HQ) _ (by (repeat (with_reducible refine Fq.Kp.set ?_ (by decide) _)); with_reducible exact Fq.Kp.refl _ _)
theorem rd_r55 {b3 k6 : Nat} {xa : Int} {v2 : Value} (hT : T.size = 401) (s2 : T[2]? = some (.pointer (some ⟨g, k6, none⟩))) (s3 : T[3]? = some (.pointer (some ⟨b3, 0, none⟩))) (x1 : w.cell? ⟨b3, 1, none⟩ = some (.int .i64 xa)) (h2 : w.cell? ⟨g, k6 + 2, none⟩ = some v2) (hf : w.frozen? ⟨g, k6 + 2, none⟩ = false)
  (hQ : ∀ T', (Fq.Kp 16 T T') → Q .normal ⟨T', []⟩ (w.setCell ⟨g, k6 + 2, none⟩ (.int .i64 xa))) : (Fq.reg Tryz.f22 55).wp Tryz.prog Q ⟨T, []⟩ w := by
 have a2 := fun h => Fq.el s2 h
 have d2 := Fq.gd s2
 have a3 := fun h => Fq.el s3 h
 have d3 := Fq.gd s3
 have hu : undef = Value.tuple #[] := rfl
 have HQ := hide hQ
 clear hQ
 conv => arg 2; whnf
 go_wp2_with fail
 exact (unhide HQ) _ (by (repeat (with_reducible refine Fq.Kp.set ?_ (by decide) _)); with_reducible exact Fq.Kp.refl _ _)
theorem rd_r59 {b3 k6 : Nat} {xa : Int} {v2 : Value} (hT : T.size = 401) (s2 : T[2]? = some (.pointer (some ⟨g, k6, none⟩))) (s3 : T[3]? = some (.pointer (some ⟨b3, 0, none⟩))) (x1 : w.cell? ⟨b3, 1, none⟩ = some (.int .i64 xa)) (h2 : w.cell? ⟨g, k6 + 2, none⟩ = some v2) (hf : w.frozen? ⟨g, k6 + 2, none⟩ = false)
  (hQ : ∀ T', (Fq.Kp 16 T T') → Q .normal ⟨T', []⟩ (w.setCell ⟨g, k6 + 2, none⟩ (.int .i64 xa))) : (Fq.reg Tryz.f22 59).wp Tryz.prog Q ⟨T, []⟩ w := by
 have a2 := fun h => Fq.el s2 h
 have d2 := Fq.gd s2
 have a3 := fun h => Fq.el s3 h
 have d3 := Fq.gd s3
 have hu : undef = Value.tuple #[] := rfl
 have HQ := hide hQ
 clear hQ
 conv => arg 2; whnf
 go_wp2_with fail
 exact (unhide HQ) _ (by (repeat (with_reducible refine Fq.Kp.set ?_ (by decide) _)); with_reducible exact Fq.Kp.refl _ _)
theorem rd_r11 {b3 : Nat} {xa : Int} (hT : T.size = 401) (s0 : T[0]? = some (.pointer (some ⟨bm, 0, none⟩))) (s3 : T[3]? = some (.pointer (some ⟨b3, 0, none⟩))) {R : World → Prop} (x1 : w.cell? ⟨b3, 1, none⟩ = some (.int .i64 xa)) (hc : Calls Tryz.prog 43 #[.pointer (some ⟨bm, 0, none⟩), .int .i64 1, .int .i64 xa, .int .i64 0, .int .i64 0, .int .i64 0] w fun r w' => r = .returned (.tuple #[]) ∧ R w')
  (hQ : ∀ T' w', (Fq.Kp 16 T T' ∧ R w') → Q .normal ⟨T', []⟩ w') : (Fq.reg Tryz.f22 11).wp Tryz.prog Q ⟨T, []⟩ w := by
 have a0 := fun h => Fq.el s0 h
 have d0 := Fq.gd s0
 have a3 := fun h => Fq.el s3 h
 have d3 := Fq.gd s3
 have hu : undef = Value.tuple #[] := rfl
 have HQ := hide hQ
 clear hQ
 conv => arg 2; whnf
 have HC := hide hc
 clear hc
 go_wp2_with (with_reducible refine (Calls.mono (unhide HC) ?_); rintro r w2 ⟨rfl, hb2⟩; have HB := hide hb2; clear hb2)
 exact (unhide HQ) _ _ ⟨(by (repeat (with_reducible refine Fq.Kp.set ?_ (by decide) _)); with_reducible exact Fq.Kp.refl _ _), unhide HB⟩
theorem rd_r13 {b3 : Nat} {xa : Int} (hT : T.size = 401) (s0 : T[0]? = some (.pointer (some ⟨bm, 0, none⟩))) (s3 : T[3]? = some (.pointer (some ⟨b3, 0, none⟩))) {R : World → Prop} (x1 : w.cell? ⟨b3, 1, none⟩ = some (.int .i64 xa)) (hc : Calls Tryz.prog 44 #[.pointer (some ⟨bm, 0, none⟩), .int .i64 xa] w fun r w' => r = .returned (.tuple #[]) ∧ R w')
  (hQ : ∀ T' w', (Fq.Kp 16 T T' ∧ R w') → Q .normal ⟨T', []⟩ w') : (Fq.reg Tryz.f22 13).wp Tryz.prog Q ⟨T, []⟩ w := by
 have a0 := fun h => Fq.el s0 h
 have d0 := Fq.gd s0
 have a3 := fun h => Fq.el s3 h
 have d3 := Fq.gd s3
 have hu : undef = Value.tuple #[] := rfl
 have HQ := hide hQ
 clear hQ
 conv => arg 2; whnf
 have HC := hide hc
 clear hc
 go_wp2_with (with_reducible refine (Calls.mono (unhide HC) ?_); rintro r w2 ⟨rfl, hb2⟩; have HB := hide hb2; clear hb2)
 exact (unhide HQ) _ _ ⟨(by (repeat (with_reducible refine Fq.Kp.set ?_ (by decide) _)); with_reducible exact Fq.Kp.refl _ _), unhide HB⟩
theorem rd_r15 {b3 v : Nat} {B : Bool} (hT : T.size = 401) (s0 : T[0]? = some (.pointer (some ⟨bm, 0, none⟩))) (s3 : T[3]? = some (.pointer (some ⟨b3, 0, none⟩))) {R : World → Prop} (x1 : w.cell? ⟨b3, 1, none⟩ = some (.int .i64 (v : Nat))) (hc : Calls Tryz.prog 45 #[.pointer (some ⟨bm, 0, none⟩), .int .i64 (v : Nat), .bool false] w fun r w' => r = .returned (.bool B) ∧ R w')
  (hQ : ∀ T' w', (Fq.Kp 16 T T' ∧ T'[94]? = some (.bool B) ∧ R w') → Q .normal ⟨T', []⟩ w') : (Fq.reg Tryz.f22 15).wp Tryz.prog Q ⟨T, []⟩ w := by
 have a0 := fun h => Fq.el s0 h
 have d0 := Fq.gd s0
 have a3 := fun h => Fq.el s3 h
 have d3 := Fq.gd s3
 have hu : undef = Value.tuple #[] := rfl
 have HQ := hide hQ
 clear hQ
 conv => arg 2; whnf
 have HC := hide hc
 clear hc
 go_wp2_with (with_reducible refine (Calls.mono (unhide HC) ?_); rintro r w2 ⟨rfl, hb2⟩; have HB := hide hb2; clear hb2)
 exact (unhide HQ) _ _ ⟨(by (repeat (with_reducible refine Fq.Kp.set ?_ (by decide) _)); with_reducible exact Fq.Kp.refl _ _), Fq.set_at _ (by simp [hT]) _, unhide HB⟩
theorem rd_r18 {z : Int} (hT : T.size = 401) (s0 : T[0]? = some (.pointer (some ⟨bm, 0, none⟩))) {R : World → Prop}  (hc : Calls Tryz.prog 46 #[.pointer (some ⟨bm, 0, none⟩)] w fun r w' => r = .returned (.int .i64 z) ∧ R w')
  (hQ : ∀ T' w', (Fq.Kp 4 T T' ∧ T'[4]? = some (.int .i64 z) ∧ R w') → Q .normal ⟨T', []⟩ w') : (Fq.reg Tryz.f22 18).wp Tryz.prog Q ⟨T, []⟩ w := by
 have a0 := fun h => Fq.el s0 h
 have d0 := Fq.gd s0
 have hu : undef = Value.tuple #[] := rfl
 have HQ := hide hQ
 clear hQ
 conv => arg 2; whnf
 have HC := hide hc
 clear hc
 go_wp2_with (with_reducible refine (Calls.mono (unhide HC) ?_); rintro r w2 ⟨rfl, hb2⟩; have HB := hide hb2; clear hb2)
 exact (unhide HQ) _ _ ⟨(by (repeat (with_reducible refine Fq.Kp.set ?_ (by decide) _)); with_reducible exact Fq.Kp.refl _ _), Fq.set_at _ (by simp [hT]) _, unhide HB⟩
theorem rd_r24 {z : Int} (hT : T.size = 401) (s0 : T[0]? = some (.pointer (some ⟨bm, 0, none⟩))) {R : World → Prop}  (hc : Calls Tryz.prog 46 #[.pointer (some ⟨bm, 0, none⟩)] w fun r w' => r = .returned (.int .i64 z) ∧ R w')
  (hQ : ∀ T' w', (Fq.Kp 5 T T' ∧ T'[5]? = some (.int .i64 z) ∧ R w') → Q .normal ⟨T', []⟩ w') : (Fq.reg Tryz.f22 24).wp Tryz.prog Q ⟨T, []⟩ w := by
 have a0 := fun h => Fq.el s0 h
 have d0 := Fq.gd s0
 have hu : undef = Value.tuple #[] := rfl
 have HQ := hide hQ
 clear hQ
 conv => arg 2; whnf
 have HC := hide hc
 clear hc
 go_wp2_with (with_reducible refine (Calls.mono (unhide HC) ?_); rintro r w2 ⟨rfl, hb2⟩; have HB := hide hb2; clear hb2)
 exact (unhide HQ) _ _ ⟨(by (repeat (with_reducible refine Fq.Kp.set ?_ (by decide) _)); with_reducible exact Fq.Kp.refl _ _), Fq.set_at _ (by simp [hT]) _, unhide HB⟩
theorem rd_r25 {z : Int} (hT : T.size = 401) (s0 : T[0]? = some (.pointer (some ⟨bm, 0, none⟩))) {R : World → Prop}  (hc : Calls Tryz.prog 46 #[.pointer (some ⟨bm, 0, none⟩)] w fun r w' => r = .returned (.int .i64 z) ∧ R w')
  (hQ : ∀ T' w', (Fq.Kp 6 T T' ∧ T'[6]? = some (.int .i64 z) ∧ R w') → Q .normal ⟨T', []⟩ w') : (Fq.reg Tryz.f22 25).wp Tryz.prog Q ⟨T, []⟩ w := by
 have a0 := fun h => Fq.el s0 h
 have d0 := Fq.gd s0
 have hu : undef = Value.tuple #[] := rfl
 have HQ := hide hQ
 clear hQ
 conv => arg 2; whnf
 have HC := hide hc
 clear hc
 go_wp2_with (with_reducible refine (Calls.mono (unhide HC) ?_); rintro r w2 ⟨rfl, hb2⟩; have HB := hide hb2; clear hb2)
 exact (unhide HQ) _ _ ⟨(by (repeat (with_reducible refine Fq.Kp.set ?_ (by decide) _)); with_reducible exact Fq.Kp.refl _ _), Fq.set_at _ (by simp [hT]) _, unhide HB⟩
theorem rd_r32 {z : Int} (hT : T.size = 401) (s0 : T[0]? = some (.pointer (some ⟨bm, 0, none⟩))) {R : World → Prop}  (hc : Calls Tryz.prog 46 #[.pointer (some ⟨bm, 0, none⟩)] w fun r w' => r = .returned (.int .i64 z) ∧ R w')
  (hQ : ∀ T' w', (Fq.Kp 9 T T' ∧ T'[9]? = some (.int .i64 z) ∧ R w') → Q .normal ⟨T', []⟩ w') : (Fq.reg Tryz.f22 32).wp Tryz.prog Q ⟨T, []⟩ w := by
 have a0 := fun h => Fq.el s0 h
 have d0 := Fq.gd s0
 have hu : undef = Value.tuple #[] := rfl
 have HQ := hide hQ
 clear hQ
 conv => arg 2; whnf
 have HC := hide hc
 clear hc
 go_wp2_with (with_reducible refine (Calls.mono (unhide HC) ?_); rintro r w2 ⟨rfl, hb2⟩; have HB := hide hb2; clear hb2)
 exact (unhide HQ) _ _ ⟨(by (repeat (with_reducible refine Fq.Kp.set ?_ (by decide) _)); with_reducible exact Fq.Kp.refl _ _), Fq.set_at _ (by simp [hT]) _, unhide HB⟩
theorem rd_r36 {z : Int} (hT : T.size = 401) (s0 : T[0]? = some (.pointer (some ⟨bm, 0, none⟩))) {R : World → Prop}  (hc : Calls Tryz.prog 46 #[.pointer (some ⟨bm, 0, none⟩)] w fun r w' => r = .returned (.int .i64 z) ∧ R w')
  (hQ : ∀ T' w', (Fq.Kp 10 T T' ∧ T'[10]? = some (.int .i64 z) ∧ R w') → Q .normal ⟨T', []⟩ w') : (Fq.reg Tryz.f22 36).wp Tryz.prog Q ⟨T, []⟩ w := by
 have a0 := fun h => Fq.el s0 h
 have d0 := Fq.gd s0
 have hu : undef = Value.tuple #[] := rfl
 have HQ := hide hQ
 clear hQ
 conv => arg 2; whnf
 have HC := hide hc
 clear hc
 go_wp2_with (with_reducible refine (Calls.mono (unhide HC) ?_); rintro r w2 ⟨rfl, hb2⟩; have HB := hide hb2; clear hb2)
 exact (unhide HQ) _ _ ⟨(by (repeat (with_reducible refine Fq.Kp.set ?_ (by decide) _)); with_reducible exact Fq.Kp.refl _ _), Fq.set_at _ (by simp [hT]) _, unhide HB⟩
end
end Go.Proofs.YtpfogjplnodacaaGreat
namespace Go.Proofs.YtpfogjplnodacaaGreat
open Go.RowKit Go.Maps
set_option linter.unusedVariables false
section
variable {T : Array Value} {w : World} {Q : Exit → Act → World → Prop} {bm g c : Nat}
theorem rd_r37 {z : Int} (hT : T.size = 401) (s0 : T[0]? = some (.pointer (some ⟨bm, 0, none⟩))) {R : World → Prop}  (hc : Calls Tryz.prog 46 #[.pointer (some ⟨bm, 0, none⟩)] w fun r w' => r = .returned (.int .i64 z) ∧ R w')
  (hQ : ∀ T' w', (Fq.Kp 11 T T' ∧ T'[11]? = some (.int .i64 z) ∧ R w') → Q .normal ⟨T', []⟩ w') : (Fq.reg Tryz.f22 37).wp Tryz.prog Q ⟨T, []⟩ w := by
 have a0 := fun h => Fq.el s0 h
 have d0 := Fq.gd s0
 have hu : undef = Value.tuple #[] := rfl
 have HQ := hide hQ
 clear hQ
 conv => arg 2; whnf
 have HC := hide hc
 clear hc
 go_wp2_with (with_reducible refine (Calls.mono (unhide HC) ?_); rintro r w2 ⟨rfl, hb2⟩; have HB := hide hb2; clear hb2)
 exact (unhide HQ) _ _ ⟨(by (repeat (with_reducible refine Fq.Kp.set ?_ (by decide) _)); with_reducible exact Fq.Kp.refl _ _), Fq.set_at _ (by simp [hT]) _, unhide HB⟩
theorem rd_r51 {z : Int} (hT : T.size = 401) (s0 : T[0]? = some (.pointer (some ⟨bm, 0, none⟩))) {R : World → Prop}  (hc : Calls Tryz.prog 46 #[.pointer (some ⟨bm, 0, none⟩)] w fun r w' => r = .returned (.int .i64 z) ∧ R w')
  (hQ : ∀ T' w', (Fq.Kp 13 T T' ∧ T'[13]? = some (.int .i64 z) ∧ R w') → Q .normal ⟨T', []⟩ w') : (Fq.reg Tryz.f22 51).wp Tryz.prog Q ⟨T, []⟩ w := by
 have a0 := fun h => Fq.el s0 h
 have d0 := Fq.gd s0
 have hu : undef = Value.tuple #[] := rfl
 have HQ := hide hQ
 clear hQ
 conv => arg 2; whnf
 have HC := hide hc
 clear hc
 go_wp2_with (with_reducible refine (Calls.mono (unhide HC) ?_); rintro r w2 ⟨rfl, hb2⟩; have HB := hide hb2; clear hb2)
 exact (unhide HQ) _ _ ⟨(by (repeat (with_reducible refine Fq.Kp.set ?_ (by decide) _)); with_reducible exact Fq.Kp.refl _ _), Fq.set_at _ (by simp [hT]) _, unhide HB⟩
theorem rd_r57 {z : Int} (hT : T.size = 401) (s0 : T[0]? = some (.pointer (some ⟨bm, 0, none⟩))) {R : World → Prop}  (hc : Calls Tryz.prog 46 #[.pointer (some ⟨bm, 0, none⟩)] w fun r w' => r = .returned (.int .i64 z) ∧ R w')
  (hQ : ∀ T' w', (Fq.Kp 14 T T' ∧ T'[14]? = some (.int .i64 z) ∧ R w') → Q .normal ⟨T', []⟩ w') : (Fq.reg Tryz.f22 57).wp Tryz.prog Q ⟨T, []⟩ w := by
 have a0 := fun h => Fq.el s0 h
 have d0 := Fq.gd s0
 have hu : undef = Value.tuple #[] := rfl
 have HQ := hide hQ
 clear hQ
 conv => arg 2; whnf
 have HC := hide hc
 clear hc
 go_wp2_with (with_reducible refine (Calls.mono (unhide HC) ?_); rintro r w2 ⟨rfl, hb2⟩; have HB := hide hb2; clear hb2)
 exact (unhide HQ) _ _ ⟨(by (repeat (with_reducible refine Fq.Kp.set ?_ (by decide) _)); with_reducible exact Fq.Kp.refl _ _), Fq.set_at _ (by simp [hT]) _, unhide HB⟩
theorem rd_r63 {z : Int} (hT : T.size = 401) (s0 : T[0]? = some (.pointer (some ⟨bm, 0, none⟩))) {R : World → Prop}  (hc : Calls Tryz.prog 46 #[.pointer (some ⟨bm, 0, none⟩)] w fun r w' => r = .returned (.int .i64 z) ∧ R w')
  (hQ : ∀ T' w', (Fq.Kp 15 T T' ∧ T'[15]? = some (.int .i64 z) ∧ R w') → Q .normal ⟨T', []⟩ w') : (Fq.reg Tryz.f22 63).wp Tryz.prog Q ⟨T, []⟩ w := by
 have a0 := fun h => Fq.el s0 h
 have d0 := Fq.gd s0
 have hu : undef = Value.tuple #[] := rfl
 have HQ := hide hQ
 clear hQ
 conv => arg 2; whnf
 have HC := hide hc
 clear hc
 go_wp2_with (with_reducible refine (Calls.mono (unhide HC) ?_); rintro r w2 ⟨rfl, hb2⟩; have HB := hide hb2; clear hb2)
 exact (unhide HQ) _ _ ⟨(by (repeat (with_reducible refine Fq.Kp.set ?_ (by decide) _)); with_reducible exact Fq.Kp.refl _ _), Fq.set_at _ (by simp [hT]) _, unhide HB⟩
theorem rd_r19L (hT : T.size = 401) (s0 : T[0]? = some (.pointer (some ⟨bm, 0, none⟩))) (h10 : w.cell? ⟨bm, 10, none⟩ = some (.bool true))
  (hQ : ∀ T', (Fq.Kp 16 T T' ∧ T'[121]? = some (.bool true)) → Q .normal ⟨T', []⟩ (w)) : (Fq.reg Tryz.f22 19).wp Tryz.prog Q ⟨T, []⟩ w := by
 have a0 := fun h => Fq.el s0 h
 have d0 := Fq.gd s0
 have hu : undef = Value.tuple #[] := rfl
 have HQ := hide hQ
 clear hQ
 conv => arg 2; whnf
 go_wp2_with fail
 exact (unhide HQ) _ ⟨(by (repeat (with_reducible refine Fq.Kp.set ?_ (by decide) _)); with_reducible exact Fq.Kp.refl _ _), Fq.set_at _ (by simp [hT]) _⟩
theorem rd_r19 {b3 v : Nat} {B : Bool} (hT : T.size = 401) (s0 : T[0]? = some (.pointer (some ⟨bm, 0, none⟩))) (s3 : T[3]? = some (.pointer (some ⟨b3, 0, none⟩))) {R : World → Prop} (h10 : w.cell? ⟨bm, 10, none⟩ = some (.bool false)) (x1 : w.cell? ⟨b3, 1, none⟩ = some (.int .i64 (v : Nat))) (hc : Calls Tryz.prog 45 #[.pointer (some ⟨bm, 0, none⟩), .int .i64 (v : Nat), .bool true] w fun r w' => r = .returned (.bool B) ∧ R w')
  (hQ : ∀ T' w', (Fq.Kp 16 T T' ∧ T'[121]? = some (.bool (!B)) ∧ R w') → Q .normal ⟨T', []⟩ w') : (Fq.reg Tryz.f22 19).wp Tryz.prog Q ⟨T, []⟩ w := by
 have a0 := fun h => Fq.el s0 h
 have d0 := Fq.gd s0
 have a3 := fun h => Fq.el s3 h
 have d3 := Fq.gd s3
 have hu : undef = Value.tuple #[] := rfl
 have HQ := hide hQ
 clear hQ
 conv => arg 2; whnf
 have HC := hide hc
 clear hc
 go_wp2_with (with_reducible refine (Calls.mono (unhide HC) ?_); rintro r w2 ⟨rfl, hb2⟩; have HB := hide hb2; clear hb2)
 exact (unhide HQ) _ _ ⟨(by (repeat (with_reducible refine Fq.Kp.set ?_ (by decide) _)); with_reducible exact Fq.Kp.refl _ _), Fq.set_at _ (by simp [hT]) _, unhide HB⟩
theorem rd_r38L (hT : T.size = 401) (s0 : T[0]? = some (.pointer (some ⟨bm, 0, none⟩))) (h10 : w.cell? ⟨bm, 10, none⟩ = some (.bool true))
  (hQ : ∀ T', (Fq.Kp 16 T T' ∧ T'[224]? = some (.bool true)) → Q .normal ⟨T', []⟩ (w)) : (Fq.reg Tryz.f22 38).wp Tryz.prog Q ⟨T, []⟩ w := by
 have a0 := fun h => Fq.el s0 h
 have d0 := Fq.gd s0
 have hu : undef = Value.tuple #[] := rfl
 have HQ := hide hQ
 clear hQ
 conv => arg 2; whnf
 go_wp2_with fail
 exact (unhide HQ) _ ⟨(by (repeat (with_reducible refine Fq.Kp.set ?_ (by decide) _)); with_reducible exact Fq.Kp.refl _ _), Fq.set_at _ (by simp [hT]) _⟩
theorem rd_r38 {b3 v : Nat} {B : Bool} (hT : T.size = 401) (s0 : T[0]? = some (.pointer (some ⟨bm, 0, none⟩))) (s3 : T[3]? = some (.pointer (some ⟨b3, 0, none⟩))) {R : World → Prop} (h10 : w.cell? ⟨bm, 10, none⟩ = some (.bool false)) (x1 : w.cell? ⟨b3, 1, none⟩ = some (.int .i64 (v : Nat))) (hc : Calls Tryz.prog 45 #[.pointer (some ⟨bm, 0, none⟩), .int .i64 (v : Nat), .bool true] w fun r w' => r = .returned (.bool B) ∧ R w')
  (hQ : ∀ T' w', (Fq.Kp 16 T T' ∧ T'[224]? = some (.bool (!B)) ∧ R w') → Q .normal ⟨T', []⟩ w') : (Fq.reg Tryz.f22 38).wp Tryz.prog Q ⟨T, []⟩ w := by
 have a0 := fun h => Fq.el s0 h
 have d0 := Fq.gd s0
 have a3 := fun h => Fq.el s3 h
 have d3 := Fq.gd s3
 have hu : undef = Value.tuple #[] := rfl
 have HQ := hide hQ
 clear hQ
 conv => arg 2; whnf
 have HC := hide hc
 clear hc
 go_wp2_with (with_reducible refine (Calls.mono (unhide HC) ?_); rintro r w2 ⟨rfl, hb2⟩; have HB := hide hb2; clear hb2)
 exact (unhide HQ) _ _ ⟨(by (repeat (with_reducible refine Fq.Kp.set ?_ (by decide) _)); with_reducible exact Fq.Kp.refl _ _), Fq.set_at _ (by simp [hT]) _, unhide HB⟩
theorem rd_r33L (hT : T.size = 401) (s0 : T[0]? = some (.pointer (some ⟨bm, 0, none⟩))) (h10 : w.cell? ⟨bm, 10, none⟩ = some (.bool true))
  (hQ : ∀ T', (Fq.Kp 16 T T' ∧ T'[198]? = some (.bool false)) → Q .normal ⟨T', []⟩ (w)) : (Fq.reg Tryz.f22 33).wp Tryz.prog Q ⟨T, []⟩ w := by
 have a0 := fun h => Fq.el s0 h
 have d0 := Fq.gd s0
 have hu : undef = Value.tuple #[] := rfl
 have HQ := hide hQ
 clear hQ
 conv => arg 2; whnf
 go_wp2_with fail
 exact (unhide HQ) _ ⟨(by (repeat (with_reducible refine Fq.Kp.set ?_ (by decide) _)); with_reducible exact Fq.Kp.refl _ _), Fq.set_at _ (by simp [hT]) _⟩
theorem rd_r33 {b3 v : Nat} {B : Bool} (hT : T.size = 401) (s0 : T[0]? = some (.pointer (some ⟨bm, 0, none⟩))) (s3 : T[3]? = some (.pointer (some ⟨b3, 0, none⟩))) {R : World → Prop} (h10 : w.cell? ⟨bm, 10, none⟩ = some (.bool false)) (x1 : w.cell? ⟨b3, 1, none⟩ = some (.int .i64 (v : Nat))) (hc : Calls Tryz.prog 45 #[.pointer (some ⟨bm, 0, none⟩), .int .i64 (v : Nat), .bool false] w fun r w' => r = .returned (.bool B) ∧ R w')
  (hQ : ∀ T' w', (Fq.Kp 16 T T' ∧ T'[198]? = some (.bool B) ∧ R w') → Q .normal ⟨T', []⟩ w') : (Fq.reg Tryz.f22 33).wp Tryz.prog Q ⟨T, []⟩ w := by
 have a0 := fun h => Fq.el s0 h
 have d0 := Fq.gd s0
 have a3 := fun h => Fq.el s3 h
 have d3 := Fq.gd s3
 have hu : undef = Value.tuple #[] := rfl
 have HQ := hide hQ
 clear hQ
 conv => arg 2; whnf
 have HC := hide hc
 clear hc
 go_wp2_with (with_reducible refine (Calls.mono (unhide HC) ?_); rintro r w2 ⟨rfl, hb2⟩; have HB := hide hb2; clear hb2)
 exact (unhide HQ) _ _ ⟨(by (repeat (with_reducible refine Fq.Kp.set ?_ (by decide) _)); with_reducible exact Fq.Kp.refl _ _), Fq.set_at _ (by simp [hT]) _, unhide HB⟩
theorem rd_r21 {k6 : Nat} {at_ : Int} (hT : T.size = 401) (s0 : T[0]? = some (.pointer (some ⟨bm, 0, none⟩))) (s2 : T[2]? = some (.pointer (some ⟨g, k6, none⟩))) {R : World → Prop} (h3 : w.cell? ⟨g, k6 + 3, none⟩ = some (.int .i64 at_)) (hc : Calls Tryz.prog 42 #[.pointer (some ⟨bm, 0, none⟩), .int .i64 at_, .int .i64 3] w fun r w' => r = .returned (.tuple #[]) ∧ R w')
  (hQ : ∀ T' w', (Fq.Kp 16 T T' ∧ R w') → Q .normal ⟨T', []⟩ w') : (Fq.reg Tryz.f22 21).wp Tryz.prog Q ⟨T, []⟩ w := by
 have a0 := fun h => Fq.el s0 h
 have d0 := Fq.gd s0
 have a2 := fun h => Fq.el s2 h
 have d2 := Fq.gd s2
 have hu : undef = Value.tuple #[] := rfl
 have HQ := hide hQ
 clear hQ
 conv => arg 2; whnf
 have HC := hide hc
 clear hc
 go_wp2_with (with_reducible refine (Calls.mono (unhide HC) ?_); rintro r w2 ⟨rfl, hb2⟩; have HB := hide hb2; clear hb2)
 exact (unhide HQ) _ _ ⟨(by (repeat (with_reducible refine Fq.Kp.set ?_ (by decide) _)); with_reducible exact Fq.Kp.refl _ _), unhide HB⟩
theorem rd_r40 {k6 : Nat} {at_ : Int} (hT : T.size = 401) (s0 : T[0]? = some (.pointer (some ⟨bm, 0, none⟩))) (s2 : T[2]? = some (.pointer (some ⟨g, k6, none⟩))) {R : World → Prop} (h3 : w.cell? ⟨g, k6 + 3, none⟩ = some (.int .i64 at_)) (hc : Calls Tryz.prog 42 #[.pointer (some ⟨bm, 0, none⟩), .int .i64 at_, .int .i64 3] w fun r w' => r = .returned (.tuple #[]) ∧ R w')
  (hQ : ∀ T' w', (Fq.Kp 16 T T' ∧ R w') → Q .normal ⟨T', []⟩ w') : (Fq.reg Tryz.f22 40).wp Tryz.prog Q ⟨T, []⟩ w := by
 have a0 := fun h => Fq.el s0 h
 have d0 := Fq.gd s0
 have a2 := fun h => Fq.el s2 h
 have d2 := Fq.gd s2
 have hu : undef = Value.tuple #[] := rfl
 have HQ := hide hQ
 clear hQ
 conv => arg 2; whnf
 have HC := hide hc
 clear hc
 go_wp2_with (with_reducible refine (Calls.mono (unhide HC) ?_); rintro r w2 ⟨rfl, hb2⟩; have HB := hide hb2; clear hb2)
 exact (unhide HQ) _ _ ⟨(by (repeat (with_reducible refine Fq.Kp.set ?_ (by decide) _)); with_reducible exact Fq.Kp.refl _ _), unhide HB⟩
theorem rd_r29 {k6 : Nat} {at_ how : Int} (hT : T.size = 401) (s0 : T[0]? = some (.pointer (some ⟨bm, 0, none⟩))) (s2 : T[2]? = some (.pointer (some ⟨g, k6, none⟩))) (s8 : T[8]? = some (.int .i64 how)) {R : World → Prop} (h3 : w.cell? ⟨g, k6 + 3, none⟩ = some (.int .i64 at_)) (hc : Calls Tryz.prog 42 #[.pointer (some ⟨bm, 0, none⟩), .int .i64 at_, .int .i64 how] w fun r w' => r = .returned (.tuple #[]) ∧ R w')
  (hQ : ∀ T' w', (Fq.Kp 16 T T' ∧ R w') → Q .normal ⟨T', []⟩ w') : (Fq.reg Tryz.f22 29).wp Tryz.prog Q ⟨T, []⟩ w := by
 have a0 := fun h => Fq.el s0 h
 have d0 := Fq.gd s0
 have a2 := fun h => Fq.el s2 h
 have d2 := Fq.gd s2
 have a8 := fun h => Fq.el s8 h
 have d8 := Fq.gd s8
 have hu : undef = Value.tuple #[] := rfl
 have HQ := hide hQ
 clear hQ
 conv => arg 2; whnf
 have HC := hide hc
 clear hc
 go_wp2_with (with_reducible refine (Calls.mono (unhide HC) ?_); rintro r w2 ⟨rfl, hb2⟩; have HB := hide hb2; clear hb2)
 exact (unhide HQ) _ _ ⟨(by (repeat (with_reducible refine Fq.Kp.set ?_ (by decide) _)); with_reducible exact Fq.Kp.refl _ _), unhide HB⟩
theorem rd_r26 {lo : Bool} (hT : T.size = 401) (s0 : T[0]? = some (.pointer (some ⟨bm, 0, none⟩))) (h10 : w.cell? ⟨bm, 10, none⟩ = some (.bool lo))
  (hQ : ∀ T', (Fq.Kp 16 T T' ∧ T'[163]? = some (.bool lo)) → Q .normal ⟨T', []⟩ (w)) : (Fq.reg Tryz.f22 26).wp Tryz.prog Q ⟨T, []⟩ w := by
 have a0 := fun h => Fq.el s0 h
 have d0 := Fq.gd s0
 have hu : undef = Value.tuple #[] := rfl
 have HQ := hide hQ
 clear hQ
 conv => arg 2; whnf
 go_wp2_with fail
 exact (unhide HQ) _ ⟨(by (repeat (with_reducible refine Fq.Kp.set ?_ (by decide) _)); with_reducible exact Fq.Kp.refl _ _), Fq.set_at _ (by simp [hT]) _⟩
theorem rd_r52 {lo : Bool} (hT : T.size = 401) (s0 : T[0]? = some (.pointer (some ⟨bm, 0, none⟩))) (h10 : w.cell? ⟨bm, 10, none⟩ = some (.bool lo))
  (hQ : ∀ T', (Fq.Kp 16 T T' ∧ T'[305]? = some (.bool (!lo))) → Q .normal ⟨T', []⟩ (w)) : (Fq.reg Tryz.f22 52).wp Tryz.prog Q ⟨T, []⟩ w := by
 have a0 := fun h => Fq.el s0 h
 have d0 := Fq.gd s0
 have hu : undef = Value.tuple #[] := rfl
 have HQ := hide hQ
 clear hQ
 conv => arg 2; whnf
 go_wp2_with fail
 exact (unhide HQ) _ ⟨(by (repeat (with_reducible refine Fq.Kp.set ?_ (by decide) _)); with_reducible exact Fq.Kp.refl _ _), Fq.set_at _ (by simp [hT]) _⟩
theorem rd_r27 {b3 : Nat} {xa za zb n how : Int} (hT : T.size = 401) (s3 : T[3]? = some (.pointer (some ⟨b3, 0, none⟩))) (s5 : T[5]? = some (.int .i64 zb)) (s6 : T[6]? = some (.int .i64 za)) (x1 : w.cell? ⟨b3, 1, none⟩ = some (.int .i64 xa)) (hc : Calls Tryz.prog 47 #[.int .i64 xa, .int .i64 za, .int .i64 zb] w fun r w' => r = .returned (.tuple #[.int .i64 n, .int .i64 how]) ∧ w' = w)
  (hQ : ∀ T', (Fq.Kp 7 T T' ∧ T'[7]? = some (.int .i64 n) ∧ T'[8]? = some (.int .i64 how)) → Q .normal ⟨T', []⟩ (w)) : (Fq.reg Tryz.f22 27).wp Tryz.prog Q ⟨T, []⟩ w := by
 have a3 := fun h => Fq.el s3 h
 have d3 := Fq.gd s3
 have a5 := fun h => Fq.el s5 h
 have d5 := Fq.gd s5
 have a6 := fun h => Fq.el s6 h
 have d6 := Fq.gd s6
 have hu : undef = Value.tuple #[] := rfl
 have HQ := hide hQ
 clear hQ
 conv => arg 2; whnf
 have HC := hide hc
 clear hc
 go_wp2_with (with_reducible refine (Calls.mono (unhide HC) ?_); rintro r w2 ⟨rfl, hw2⟩; have hw3 := hw2.symm; clear hw2; subst hw3)
 exact (unhide HQ) _ ⟨(by (repeat (with_reducible refine Fq.Kp.set ?_ (by decide) _)); with_reducible exact Fq.Kp.refl _ _), by simp [hT], by simp [hT]⟩
theorem rd_r28 {how : Int} {VB : Bool} (hT : T.size = 401) (s8 : T[8]? = some (.int .i64 how)) (hVB : VB = decide (how ≠ 0))
  (hQ : ∀ T', (Fq.Kp 16 T T' ∧ T'[173]? = some (.bool VB)) → Q .normal ⟨T', []⟩ (w)) : (Fq.reg Tryz.f22 28).wp Tryz.prog Q ⟨T, []⟩ w := by
 have a8 := fun h => Fq.el s8 h
 have d8 := Fq.gd s8
 have hu : undef = Value.tuple #[] := rfl
 have HQ := hide hQ
 clear hQ
 conv => arg 2; whnf
 by_cases hR : how = 0
 · have HV3 := hide (show VB = false by rw [hVB, decide_eq_false (fun h => h hR)])
   subst hR
   clear hVB
   go_wp2_with fail
   exact (unhide HQ) _ ⟨(by (repeat (with_reducible refine Fq.Kp.set ?_ (by decide) _)); with_reducible exact Fq.Kp.refl _ _), (Fq.set_at _ (by simp [hT]) _).trans (by rw [unhide HV3] <;> rfl)⟩
 · have HV3 := hide (show VB = true by rw [hVB, decide_eq_true hR])
   have b0 : (how != 0) = true := by simpa using hR
   clear hVB hR
   go_wp2_with fail
   exact (unhide HQ) _ ⟨(by (repeat (with_reducible refine Fq.Kp.set ?_ (by decide) _)); with_reducible exact Fq.Kp.refl _ _), (Fq.set_at _ (by simp [hT]) _).trans (by rw [unhide HV3] <;> rfl)⟩
theorem rd_r30 {n : Int} (hT : T.size = 401) (s0 : T[0]? = some (.pointer (some ⟨bm, 0, none⟩))) (s7 : T[7]? = some (.int .i64 n)) {R : World → Prop}  (hc : Calls Tryz.prog 44 #[.pointer (some ⟨bm, 0, none⟩), .int .i64 n] w fun r w' => r = .returned (.tuple #[]) ∧ R w')
  (hQ : ∀ T' w', (Fq.Kp 16 T T' ∧ R w') → Q .normal ⟨T', []⟩ w') : (Fq.reg Tryz.f22 30).wp Tryz.prog Q ⟨T, []⟩ w := by
 have a0 := fun h => Fq.el s0 h
 have d0 := Fq.gd s0
 have a7 := fun h => Fq.el s7 h
 have d7 := Fq.gd s7
 have hu : undef = Value.tuple #[] := rfl
 have HQ := hide hQ
 clear hQ
 conv => arg 2; whnf
 have HC := hide hc
 clear hc
 go_wp2_with (with_reducible refine (Calls.mono (unhide HC) ?_); rintro r w2 ⟨rfl, hb2⟩; have HB := hide hb2; clear hb2)
 exact (unhide HQ) _ _ ⟨(by (repeat (with_reducible refine Fq.Kp.set ?_ (by decide) _)); with_reducible exact Fq.Kp.refl _ _), unhide HB⟩
theorem rd_r68 {n : Int} (hT : T.size = 401) (s0 : T[0]? = some (.pointer (some ⟨bm, 0, none⟩))) (s15 : T[15]? = some (.int .i64 n)) {R : World → Prop}  (hc : Calls Tryz.prog 44 #[.pointer (some ⟨bm, 0, none⟩), .int .i64 n] w fun r w' => r = .returned (.tuple #[]) ∧ R w')
  (hQ : ∀ T' w', (Fq.Kp 16 T T' ∧ R w') → Q .normal ⟨T', []⟩ w') : (Fq.reg Tryz.f22 68).wp Tryz.prog Q ⟨T, []⟩ w := by
 have a0 := fun h => Fq.el s0 h
 have d0 := Fq.gd s0
 have a15 := fun h => Fq.el s15 h
 have d15 := Fq.gd s15
 have hu : undef = Value.tuple #[] := rfl
 have HQ := hide hQ
 clear hQ
 conv => arg 2; whnf
 have HC := hide hc
 clear hc
 go_wp2_with (with_reducible refine (Calls.mono (unhide HC) ?_); rintro r w2 ⟨rfl, hb2⟩; have HB := hide hb2; clear hb2)
 exact (unhide HQ) _ _ ⟨(by (repeat (with_reducible refine Fq.Kp.set ?_ (by decide) _)); with_reducible exact Fq.Kp.refl _ _), unhide HB⟩
theorem rd_r43 {b3 v : Nat} {B : Bool} (hT : T.size = 401) (s0 : T[0]? = some (.pointer (some ⟨bm, 0, none⟩))) (s3 : T[3]? = some (.pointer (some ⟨b3, 0, none⟩))) {R : World → Prop} (x1 : w.cell? ⟨b3, 1, none⟩ = some (.int .i64 (v : Nat))) (hc : Calls Tryz.prog 45 #[.pointer (some ⟨bm, 0, none⟩), .int .i64 (v : Nat), .bool false] w fun r w' => r = .returned (.bool B) ∧ R w')
  (hQ : ∀ T' w', (Fq.Kp 16 T T' ∧ T'[260]? = some (.bool (!B)) ∧ R w') → Q .normal ⟨T', []⟩ w') : (Fq.reg Tryz.f22 43).wp Tryz.prog Q ⟨T, []⟩ w := by
 have a0 := fun h => Fq.el s0 h
 have d0 := Fq.gd s0
 have a3 := fun h => Fq.el s3 h
 have d3 := Fq.gd s3
 have hu : undef = Value.tuple #[] := rfl
 have HQ := hide hQ
 clear hQ
 conv => arg 2; whnf
 have HC := hide hc
 clear hc
 go_wp2_with (with_reducible refine (Calls.mono (unhide HC) ?_); rintro r w2 ⟨rfl, hb2⟩; have HB := hide hb2; clear hb2)
 exact (unhide HQ) _ _ ⟨(by (repeat (with_reducible refine Fq.Kp.set ?_ (by decide) _)); with_reducible exact Fq.Kp.refl _ _), Fq.set_at _ (by simp [hT]) _, unhide HB⟩
theorem rd_r44 (hT : T.size = 401)
  (hQ : ∀ T', (Fq.Kp 12 T T' ∧ T'[12]? = some (.int .i64 0)) → Q .normal ⟨T', []⟩ (w)) : (Fq.reg Tryz.f22 44).wp Tryz.prog Q ⟨T, []⟩ w := by
 have hu : undef = Value.tuple #[] := rfl
 have HQ := hide hQ
 clear hQ
 conv => arg 2; whnf
 go_wp2_with fail
 exact (unhide HQ) _ ⟨(by (repeat (with_reducible refine Fq.Kp.set ?_ (by decide) _)); with_reducible exact Fq.Kp.refl _ _), Fq.set_at _ (by simp [hT]) _⟩
theorem rd_r45 {il ic : Nat} {ia : Option Addr} {VB : Bool} (hT : T.size = 401) (s0 : T[0]? = some (.pointer (some ⟨bm, 0, none⟩))) (h3 : w.cell? ⟨bm, 3, none⟩ = some (.slice ia il ic)) (hVB : VB = decide (0 < il))
  (hQ : ∀ T', (Fq.Kp 16 T T' ∧ T'[266]? = some (.bool VB)) → Q .normal ⟨T', []⟩ (w)) : (Fq.reg Tryz.f22 45).wp Tryz.prog Q ⟨T, []⟩ w := by
 have a0 := fun h => Fq.el s0 h
 have d0 := Fq.gd s0
 have hu : undef = Value.tuple #[] := rfl
 have HQ := hide hQ
 clear hQ
 conv => arg 2; whnf
 have HV3 := hide hVB
 clear hVB
 go_wp2_with fail
 exact (unhide HQ) _ ⟨(by (repeat (with_reducible refine Fq.Kp.set ?_ (by decide) _)); with_reducible exact Fq.Kp.refl _ _), (Fq.set_at _ (by simp [hT]) _).trans (by rw [unhide HV3] <;> rfl)⟩
theorem rd_r46 {b o il ic : Nat} {z : Int} (hT : T.size = 401) (s0 : T[0]? = some (.pointer (some ⟨bm, 0, none⟩))) (h3 : w.cell? ⟨bm, 3, none⟩ = some (.slice (some ⟨b, o, none⟩) il ic)) (h0 : 0 < il) (hz : w.cell? ⟨b, o, none⟩ = some (.int .i64 z))
  (hQ : ∀ T', (Fq.Kp 12 T T' ∧ T'[12]? = some (.int .i64 z)) → Q .normal ⟨T', []⟩ (w)) : (Fq.reg Tryz.f22 46).wp Tryz.prog Q ⟨T, []⟩ w := by
 have a0 := fun h => Fq.el s0 h
 have d0 := Fq.gd s0
 have hu : undef = Value.tuple #[] := rfl
 have HQ := hide hQ
 clear hQ
 conv => arg 2; whnf
 have i1 : (0 : Int) < (il : Int) := by omega
 go_wp2_with fail
 exact (unhide HQ) _ ⟨(by (repeat (with_reducible refine Fq.Kp.set ?_ (by decide) _)); with_reducible exact Fq.Kp.refl _ _), Fq.set_at _ (by simp [hT]) _⟩
theorem rd_r47L {b o : Nat} (hT : T.size = 401) (s0 : T[0]? = some (.pointer (some ⟨bm, 0, none⟩))) (h3 : w.cell? ⟨bm, 3, none⟩ = some (.slice (some ⟨b, o, none⟩) 1 1)) (hf : w.frozen? ⟨bm, 3, none⟩ = false)
  (hQ : ∀ T', (Fq.Kp 16 T T') → Q .normal ⟨T', []⟩ (w.setCell ⟨bm, 3, none⟩ (.slice (some ⟨b, o, none⟩) 0 0))) : (Fq.reg Tryz.f22 47).wp Tryz.prog Q ⟨T, []⟩ w := by
 have a0 := fun h => Fq.el s0 h
 have d0 := Fq.gd s0
 have hu : undef = Value.tuple #[] := rfl
 have HQ := hide hQ
 clear hQ
 conv => arg 2; whnf
 go_wp2_with fail
 exact (unhide HQ) _ (by (repeat (with_reducible refine Fq.Kp.set ?_ (by decide) _)); with_reducible exact Fq.Kp.refl _ _)
theorem rd_r47 {b o tn tc : Nat} (hT : T.size = 401) (s0 : T[0]? = some (.pointer (some ⟨bm, 0, none⟩))) (h3 : w.cell? ⟨bm, 3, none⟩ = some (.slice (some ⟨b, o, none⟩) tn tc)) (hf : w.frozen? ⟨bm, 3, none⟩ = false) (hn : 1 ≤ tn) (hc : tn ≤ tc) (htc : ¬ tc = 1)
  (hQ : ∀ T', (Fq.Kp 16 T T') → Q .normal ⟨T', []⟩ (w.setCell ⟨bm, 3, none⟩ (.slice (some ⟨b, o + 1, none⟩) (tn - 1) (tc - 1)))) : (Fq.reg Tryz.f22 47).wp Tryz.prog Q ⟨T, []⟩ w := by
 have a0 := fun h => Fq.el s0 h
 have d0 := Fq.gd s0
 have hu : undef = Value.tuple #[] := rfl
 have HQ := hide hQ
 clear hQ
 conv => arg 2; whnf
 have g1 : (tn : Int) > 0 := by omega
 have g2 : (1 : Int) ≤ (tn : Int) := by omega
 have g3 : (1 : Int) ≤ (tc : Int) := by omega
 have g4 : (tn : Int) ≤ (tc : Int) := by omega
 go_wp2_with fail
 exact (unhide HQ) _ (by (repeat (with_reducible refine Fq.Kp.set ?_ (by decide) _)); with_reducible exact Fq.Kp.refl _ _)
theorem rd_r48 {k6 : Nat} {at_ : Int} {z : Int} (hT : T.size = 401) (s0 : T[0]? = some (.pointer (some ⟨bm, 0, none⟩))) (s2 : T[2]? = some (.pointer (some ⟨g, k6, none⟩))) (s12 : T[12]? = some (.int .i64 z)) {R : World → Prop} (h3 : w.cell? ⟨g, k6 + 3, none⟩ = some (.int .i64 at_)) (hc : Calls Tryz.prog 43 #[.pointer (some ⟨bm, 0, none⟩), .int .i64 3, .int .i64 at_, .int .i64 0, .int .i64 0, .int .i64 z] w fun r w' => r = .returned (.tuple #[]) ∧ R w')
  (hQ : ∀ T' w', (Fq.Kp 16 T T' ∧ R w') → Q .normal ⟨T', []⟩ w') : (Fq.reg Tryz.f22 48).wp Tryz.prog Q ⟨T, []⟩ w := by
 have a0 := fun h => Fq.el s0 h
 have d0 := Fq.gd s0
 have a2 := fun h => Fq.el s2 h
 have d2 := Fq.gd s2
 have a12 := fun h => Fq.el s12 h
 have d12 := Fq.gd s12
 have hu : undef = Value.tuple #[] := rfl
 have HQ := hide hQ
 clear hQ
 conv => arg 2; whnf
 have HC := hide hc
 clear hc
 go_wp2_with (with_reducible refine (Calls.mono (unhide HC) ?_); rintro r w2 ⟨rfl, hb2⟩; have HB := hide hb2; clear hb2)
 exact (unhide HQ) _ _ ⟨(by (repeat (with_reducible refine Fq.Kp.set ?_ (by decide) _)); with_reducible exact Fq.Kp.refl _ _), unhide HB⟩
theorem rd_r53 {k6 : Nat} {at_ : Int} {z : Int} (hT : T.size = 401) (s0 : T[0]? = some (.pointer (some ⟨bm, 0, none⟩))) (s2 : T[2]? = some (.pointer (some ⟨g, k6, none⟩))) (s13 : T[13]? = some (.int .i64 z)) {R : World → Prop} (h3 : w.cell? ⟨g, k6 + 3, none⟩ = some (.int .i64 at_)) (hc : Calls Tryz.prog 43 #[.pointer (some ⟨bm, 0, none⟩), .int .i64 4, .int .i64 at_, .int .i64 0, .int .i64 0, .int .i64 z] w fun r w' => r = .returned (.tuple #[]) ∧ R w')
  (hQ : ∀ T' w', (Fq.Kp 16 T T' ∧ R w') → Q .normal ⟨T', []⟩ w') : (Fq.reg Tryz.f22 53).wp Tryz.prog Q ⟨T, []⟩ w := by
 have a0 := fun h => Fq.el s0 h
 have d0 := Fq.gd s0
 have a2 := fun h => Fq.el s2 h
 have d2 := Fq.gd s2
 have a13 := fun h => Fq.el s13 h
 have d13 := Fq.gd s13
 have hu : undef = Value.tuple #[] := rfl
 have HQ := hide hQ
 clear hQ
 conv => arg 2; whnf
 have HC := hide hc
 clear hc
 go_wp2_with (with_reducible refine (Calls.mono (unhide HC) ?_); rintro r w2 ⟨rfl, hb2⟩; have HB := hide hb2; clear hb2)
 exact (unhide HQ) _ _ ⟨(by (repeat (with_reducible refine Fq.Kp.set ?_ (by decide) _)); with_reducible exact Fq.Kp.refl _ _), unhide HB⟩
theorem rd_r58 {z : Int} {VB : Bool} (hT : T.size = 401) (s14 : T[14]? = some (.int .i64 z)) (hVB : VB = decide (z = 0))
  (hQ : ∀ T', (Fq.Kp 16 T T' ∧ T'[325]? = some (.bool VB)) → Q .normal ⟨T', []⟩ (w)) : (Fq.reg Tryz.f22 58).wp Tryz.prog Q ⟨T, []⟩ w := by
 have a14 := fun h => Fq.el s14 h
 have d14 := Fq.gd s14
 have hu : undef = Value.tuple #[] := rfl
 have HQ := hide hQ
 clear hQ
 conv => arg 2; whnf
 by_cases hR : z = 0
 · have HV3 := hide (show VB = true by rw [hVB, decide_eq_true hR])
   have b0 : (z == 0) = true := by simp [hR]
   clear hVB hR
   go_wp2_with fail
   exact (unhide HQ) _ ⟨(by (repeat (with_reducible refine Fq.Kp.set ?_ (by decide) _)); with_reducible exact Fq.Kp.refl _ _), (Fq.set_at _ (by simp [hT]) _).trans (by rw [unhide HV3] <;> rfl)⟩
 · have HV3 := hide (show VB = false by rw [hVB, decide_eq_false hR])
   have b0 : (z == 0) = false := by simpa using hR
   clear hVB hR
   go_wp2_with fail
   exact (unhide HQ) _ ⟨(by (repeat (with_reducible refine Fq.Kp.set ?_ (by decide) _)); with_reducible exact Fq.Kp.refl _ _), (Fq.set_at _ (by simp [hT]) _).trans (by rw [unhide HV3] <;> rfl)⟩
theorem rd_r61 {b3 : Nat} {xk xa xb : Int} (hT : T.size = 401) (s0 : T[0]? = some (.pointer (some ⟨bm, 0, none⟩))) (s3 : T[3]? = some (.pointer (some ⟨b3, 0, none⟩))) {R : World → Prop} (x0 : w.cell? ⟨b3, 0, none⟩ = some (.int .i64 xk)) (x1 : w.cell? ⟨b3, 1, none⟩ = some (.int .i64 xa)) (x2 : w.cell? ⟨b3, 2, none⟩ = some (.int .i64 xb)) (hc : Calls Tryz.prog 49 #[.pointer (some ⟨bm, 0, none⟩), .agg #[.int .i64 xk, .int .i64 xa, .int .i64 xb]] w fun r w' => r = .returned (.tuple #[]) ∧ R w')
  (hQ : ∀ T' w', (Fq.Kp 16 T T' ∧ R w') → Q .normal ⟨T', []⟩ w') : (Fq.reg Tryz.f22 61).wp Tryz.prog Q ⟨T, []⟩ w := by
 have a0 := fun h => Fq.el s0 h
 have d0 := Fq.gd s0
 have a3 := fun h => Fq.el s3 h
 have d3 := Fq.gd s3
 have hu : undef = Value.tuple #[] := rfl
 have HQ := hide hQ
 clear hQ
 conv => arg 2; whnf
 have HC := hide hc
 clear hc
 go_wp2_with (with_reducible refine (Calls.mono (unhide HC) ?_); rintro r w2 ⟨rfl, hb2⟩; have HB := hide hb2; clear hb2)
 exact (unhide HQ) _ _ ⟨(by (repeat (with_reducible refine Fq.Kp.set ?_ (by decide) _)); with_reducible exact Fq.Kp.refl _ _), unhide HB⟩
theorem rd_r64L (hT : T.size = 401) (s0 : T[0]? = some (.pointer (some ⟨bm, 0, none⟩))) (h10 : w.cell? ⟨bm, 10, none⟩ = some (.bool true))
  (hQ : ∀ T', (Fq.Kp 16 T T' ∧ T'[351]? = some (.bool true)) → Q .normal ⟨T', []⟩ (w)) : (Fq.reg Tryz.f22 64).wp Tryz.prog Q ⟨T, []⟩ w := by
 have a0 := fun h => Fq.el s0 h
 have d0 := Fq.gd s0
 have hu : undef = Value.tuple #[] := rfl
 have HQ := hide hQ
 clear hQ
 conv => arg 2; whnf
 go_wp2_with fail
 exact (unhide HQ) _ ⟨(by (repeat (with_reducible refine Fq.Kp.set ?_ (by decide) _)); with_reducible exact Fq.Kp.refl _ _), Fq.set_at _ (by simp [hT]) _⟩
theorem rd_r64 {n : Nat} {VB : Bool} (hT : T.size = 401) (s0 : T[0]? = some (.pointer (some ⟨bm, 0, none⟩))) (h10 : w.cell? ⟨bm, 10, none⟩ = some (.bool false)) (h7 : w.cell? ⟨bm, 7, none⟩ = some (.slice (some ⟨g, 0, none⟩) n c)) (hn : n ≤ 1000) (hVB : VB = decide (n = 1))
  (hQ : ∀ T', (Fq.Kp 16 T T' ∧ T'[351]? = some (.bool VB)) → Q .normal ⟨T', []⟩ (w)) : (Fq.reg Tryz.f22 64).wp Tryz.prog Q ⟨T, []⟩ w := by
 have a0 := fun h => Fq.el s0 h
 have d0 := Fq.gd s0
 have hu : undef = Value.tuple #[] := rfl
 have HQ := hide hQ
 clear hQ
 conv => arg 2; whnf
 by_cases hR : n = 1
 · have HV3 := hide (show VB = true by rw [hVB, decide_eq_true hR])
   have b0 : ((n : Int) == 1) = true := by simp [hR]
   have b1 : (n : Int) = 1 := by omega
   clear hVB
   go_wp2_with fail
   exact (unhide HQ) _ ⟨(by (repeat (with_reducible refine Fq.Kp.set ?_ (by decide) _)); with_reducible exact Fq.Kp.refl _ _), (Fq.set_at _ (by simp [hT]) _).trans (by rw [unhide HV3] <;> rfl)⟩
 · have HV3 := hide (show VB = false by rw [hVB, decide_eq_false hR])
   have b0 : ((n : Int) == 1) = false := by simp; omega
   clear hVB
   go_wp2_with fail
   exact (unhide HQ) _ ⟨(by (repeat (with_reducible refine Fq.Kp.set ?_ (by decide) _)); with_reducible exact Fq.Kp.refl _ _), (Fq.set_at _ (by simp [hT]) _).trans (by rw [unhide HV3] <;> rfl)⟩
theorem rd_r70 {n : Nat} {VB : Bool} (hT : T.size = 401) (s0 : T[0]? = some (.pointer (some ⟨bm, 0, none⟩))) (h7 : w.cell? ⟨bm, 7, none⟩ = some (.slice (some ⟨g, 0, none⟩) n c)) (hn : n ≤ 1000) (hVB : VB = decide (1 < n))
  (hQ : ∀ T', (Fq.Kp 16 T T' ∧ T'[395]? = some (.bool VB)) → Q .normal ⟨T', []⟩ (w)) : (Fq.reg Tryz.f22 70).wp Tryz.prog Q ⟨T, []⟩ w := by
 have a0 := fun h => Fq.el s0 h
 have d0 := Fq.gd s0
 have hu : undef = Value.tuple #[] := rfl
 have HQ := hide hQ
 clear hQ
 conv => arg 2; whnf
 by_cases hR : (1 : Int) < (n : Int)
 · have HV3 := hide (show VB = true by rw [hVB, decide_eq_true (by omega)])
   clear hVB
   go_wp2_with fail
   exact (unhide HQ) _ ⟨(by (repeat (with_reducible refine Fq.Kp.set ?_ (by decide) _)); with_reducible exact Fq.Kp.refl _ _), (Fq.set_at _ (by simp [hT]) _).trans (by rw [unhide HV3] <;> rfl)⟩
 · have HV3 := hide (show VB = false by rw [hVB, decide_eq_false (by omega)])
   clear hVB
   go_wp2_with fail
   exact (unhide HQ) _ ⟨(by (repeat (with_reducible refine Fq.Kp.set ?_ (by decide) _)); with_reducible exact Fq.Kp.refl _ _), (Fq.set_at _ (by simp [hT]) _).trans (by rw [unhide HV3] <;> rfl)⟩
theorem rd_r72 (hT : T.size = 401) (s0 : T[0]? = some (.pointer (some ⟨bm, 0, none⟩))) {R : World → Prop}  (hc : Calls Tryz.prog 42 #[.pointer (some ⟨bm, 0, none⟩), .int .i64 (-1), .int .i64 0] w fun r w' => r = .returned (.tuple #[]) ∧ R w')
  (hQ : ∀ T' w', (Fq.Kp 16 T T' ∧ R w') → Q .normal ⟨T', []⟩ w') : (Fq.reg Tryz.f22 72).wp Tryz.prog Q ⟨T, []⟩ w := by
 have a0 := fun h => Fq.el s0 h
 have d0 := Fq.gd s0
 have hu : undef = Value.tuple #[] := rfl
 have HQ := hide hQ
 clear hQ
 conv => arg 2; whnf
 have HC := hide hc
 clear hc
 go_wp2_with (with_reducible refine (Calls.mono (unhide HC) ?_); rintro r w2 ⟨rfl, hb2⟩; have HB := hide hb2; clear hb2)
 exact (unhide HQ) _ _ ⟨(by (repeat (with_reducible refine Fq.Kp.set ?_ (by decide) _)); with_reducible exact Fq.Kp.refl _ _), unhide HB⟩
end
end Go.Proofs.YtpfogjplnodacaaGreat
namespace Go.Proofs.YtpfogjplnodacaaGreat
open Go.RowKit
def Fq.w401 (t : Nat → Value) : Array Value := #[t 0, t 1, t 2, t 3, t 4, t 5, t 6, t 7, t 8, t 9, t 10, t 11, t 12, t 13, t 14, t 15, t 16, t 17, t 18, t 19, t 20, t 21, t 22, t 23, t 24, t 25, t 26, t 27, t 28, t 29, t 30, t 31, t 32, t 33, t 34, t 35, t 36, t 37, t 38, t 39, t 40, t 41, t 42, t 43, t 44, t 45, t 46, t 47, t 48, t 49, t 50, t 51, t 52, t 53, t 54, t 55, t 56, t 57, t 58, t 59, t 60, t 61, t 62, t 63, t 64, t 65, t 66, t 67, t 68, t 69, t 70, t 71, t 72, t 73, t 74, t 75, t 76, t 77, t 78, t 79, t 80, t 81, t 82, t 83, t 84, t 85, t 86, t 87, t 88, t 89, t 90, t 91, t 92, t 93, t 94, t 95, t 96, t 97, t 98, t 99, t 100, t 101, t 102, t 103, t 104, t 105, t 106, t 107, t 108, t 109, t 110, t 111, t 112, t 113, t 114, t 115, t 116, t 117, t 118, t 119, t 120, t 121, t 122, t 123, t 124, t 125, t 126, t 127, t 128, t 129, t 130, t 131, t 132, t 133, t 134, t 135, t 136, t 137, t 138, t 139, t 140, t 141, t 142, t 143, t 144, t 145, t 146, t 147, t 148, t 149, t 150, t 151, t 152, t 153, t 154, t 155, t 156, t 157, t 158, t 159, t 160, t 161, t 162, t 163, t 164, t 165, t 166, t 167, t 168, t 169, t 170, t 171, t 172, t 173, t 174, t 175, t 176, t 177, t 178, t 179, t 180, t 181, t 182, t 183, t 184, t 185, t 186, t 187, t 188, t 189, t 190, t 191, t 192, t 193, t 194, t 195, t 196, t 197, t 198, t 199, t 200, t 201, t 202, t 203, t 204, t 205, t 206, t 207, t 208, t 209, t 210, t 211, t 212, t 213, t 214, t 215, t 216, t 217, t 218, t 219, t 220, t 221, t 222, t 223, t 224, t 225, t 226, t 227, t 228, t 229, t 230, t 231, t 232, t 233, t 234, t 235, t 236, t 237, t 238, t 239, t 240, t 241, t 242, t 243, t 244, t 245, t 246, t 247, t 248, t 249, t 250, t 251, t 252, t 253, t 254, t 255, t 256, t 257, t 258, t 259, t 260, t 261, t 262, t 263, t 264, t 265, t 266, t 267, t 268, t 269, t 270, t 271, t 272, t 273, t 274, t 275, t 276, t 277, t 278, t 279, t 280, t 281, t 282, t 283, t 284, t 285, t 286, t 287, t 288, t 289, t 290, t 291, t 292, t 293, t 294, t 295, t 296, t 297, t 298, t 299, t 300, t 301, t 302, t 303, t 304, t 305, t 306, t 307, t 308, t 309, t 310, t 311, t 312, t 313, t 314, t 315, t 316, t 317, t 318, t 319, t 320, t 321, t 322, t 323, t 324, t 325, t 326, t 327, t 328, t 329, t 330, t 331, t 332, t 333, t 334, t 335, t 336, t 337, t 338, t 339, t 340, t 341, t 342, t 343, t 344, t 345, t 346, t 347, t 348, t 349, t 350, t 351, t 352, t 353, t 354, t 355, t 356, t 357, t 358, t 359, t 360, t 361, t 362, t 363, t 364, t 365, t 366, t 367, t 368, t 369, t 370, t 371, t 372, t 373, t 374, t 375, t 376, t 377, t 378, t 379, t 380, t 381, t 382, t 383, t 384, t 385, t 386, t 387, t 388, t 389, t 390, t 391, t 392, t 393, t 394, t 395, t 396, t 397, t 398, t 399, t 400]
end Go.Proofs.YtpfogjplnodacaaGreat
