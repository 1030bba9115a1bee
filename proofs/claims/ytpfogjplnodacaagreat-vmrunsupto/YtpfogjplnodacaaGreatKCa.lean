/-
  Regions of the document's CheckCode, each in a theorem of its own. By the verifier; written by mkkc.py.
-/
import Derived.Test.YtpfogjplnodacaaGreatR1
import Derived.Test.YtpfogjplnodacaaGreatLQ
import Derived.Test.YtpfogjplnodacaaGreatLG
set_option maxRecDepth 100000
set_option maxHeartbeats 1600000
namespace Go.Proofs.YtpfogjplnodacaaGreat
open Go.RowKit
set_option linter.unusedVariables false
section
variable {T : Array Value} {w : World} {Q : Exit → Act → World → Prop} {ia fa sa : Option Addr} {il ic fl fc sl sc bx : Nat}
theorem cc_r0 (hT : T.size = 151) (s0 : T[0]? = some (.agg #[.slice ia il ic, .slice fa fl fc, .slice sa sl sc]))
  (hQ : ∀ T', (Fq.Kp 1 T T' ∧ T'[1]? = some (.pointer (some ⟨w.heap.size, 0, none⟩))) → Q .normal ⟨T', []⟩ (w.alloc (Obj.cells #[.slice ia il ic, .slice fa fl fc, .slice sa sl sc] 26))) : (Fq.reg Tryz.f6 0).wp Tryz.prog Q ⟨T, []⟩ w := by
 have a0 := fun h => Fq.el s0 h
 have d0 := Fq.gd s0
 have hu : undef = Value.tuple #[] := rfl
 have HQ := hide hQ
 clear hQ
 conv => arg 2; whnf
 go_wp2_with fail
 exact (unhide HQ) _ ⟨(by (repeat (with_reducible refine Fq.Kp.set ?_ (by decide) _)); with_reducible exact Fq.Kp.refl _ _), by simp [hT]⟩
theorem cc_r1 (hT : T.size = 151) (s1 : T[1]? = some (.pointer (some ⟨bx, 0, none⟩))) (c0 : w.cell? ⟨bx, 0, none⟩ = some (.slice ia il ic))
  (hQ : ∀ T', (Fq.Kp 3 T T' ∧ T'[3]? = some (.int .i64 (il : Nat))) → Q .normal ⟨T', []⟩ (w)) : (Fq.reg Tryz.f6 1).wp Tryz.prog Q ⟨T, []⟩ w := by
 have a1 := fun h => Fq.el s1 h
 have d1 := Fq.gd s1
 have hu : undef = Value.tuple #[] := rfl
 have HQ := hide hQ
 clear hQ
 conv => arg 2; whnf
 go_wp2_with fail
 exact (unhide HQ) _ ⟨(by (repeat (with_reducible refine Fq.Kp.set ?_ (by decide) _)); with_reducible exact Fq.Kp.refl _ _), Fq.set_at _ (by simp [hT]) _⟩
theorem cc_r2 {VB : Bool} (hT : T.size = 151) (s3 : T[3]? = some (.int .i64 (il : Nat)))  (hVB : VB = decide ((3000 : Int) < (il : Nat)))
  (hQ : ∀ T', (Fq.Kp 9 T T' ∧ T'[13]? = some (.bool VB)) → Q .normal ⟨T', []⟩ (w)) : (Fq.reg Tryz.f6 2).wp Tryz.prog Q ⟨T, []⟩ w := by
 have a3 := fun h => Fq.el s3 h
 have d3 := Fq.gd s3
 have hu : undef = Value.tuple #[] := rfl
 have HQ := hide hQ
 clear hQ
 conv => arg 2; whnf
 by_cases hR : (3000 : Int) < (il : Nat)
 · have HV3 := hide (show VB = true by rw [hVB, decide_eq_true hR] <;> rfl)
   skip
   clear hVB
   go_wp2_with fail
   exact (unhide HQ) _ ⟨(by (repeat (with_reducible refine Fq.Kp.set ?_ (by decide) _)); with_reducible exact Fq.Kp.refl _ _), (Fq.set_at _ (by simp [hT]) _).trans (by rw [unhide HV3] <;> rfl)⟩
 · have HV3 := hide (show VB = false by rw [hVB, decide_eq_false hR] <;> rfl)
   skip
   clear hVB
   go_wp2_with fail
   exact (unhide HQ) _ ⟨(by (repeat (with_reducible refine Fq.Kp.set ?_ (by decide) _)); with_reducible exact Fq.Kp.refl _ _), (Fq.set_at _ (by simp [hT]) _).trans (by rw [unhide HV3] <;> rfl)⟩
theorem cc_r3 (hT : T.size = 151)
  (hQ : ∀ T', (Fq.Kp 2 T T' ∧ T'[2]? = some (.int .i64 2)) → Q .normal ⟨T', []⟩ (w)) : (Fq.reg Tryz.f6 3).wp Tryz.prog Q ⟨T, []⟩ w := by
 have hu : undef = Value.tuple #[] := rfl
 have HQ := hide hQ
 clear hQ
 conv => arg 2; whnf
 go_wp2_with fail
 exact (unhide HQ) _ ⟨(by (repeat (with_reducible refine Fq.Kp.set ?_ (by decide) _)); with_reducible exact Fq.Kp.refl _ _), Fq.set_at _ (by simp [hT]) _⟩
theorem cc_r5 (hT : T.size = 151)
  (hQ : ∀ T', (Fq.Kp 2 T T' ∧ T'[2]? = some (.int .i64 1)) → Q .normal ⟨T', []⟩ (w)) : (Fq.reg Tryz.f6 5).wp Tryz.prog Q ⟨T, []⟩ w := by
 have hu : undef = Value.tuple #[] := rfl
 have HQ := hide hQ
 clear hQ
 conv => arg 2; whnf
 go_wp2_with fail
 exact (unhide HQ) _ ⟨(by (repeat (with_reducible refine Fq.Kp.set ?_ (by decide) _)); with_reducible exact Fq.Kp.refl _ _), Fq.set_at _ (by simp [hT]) _⟩
theorem cc_r10 (hT : T.size = 151)
  (hQ : ∀ T', (Fq.Kp 2 T T' ∧ T'[2]? = some (.int .i64 3)) → Q .normal ⟨T', []⟩ (w)) : (Fq.reg Tryz.f6 10).wp Tryz.prog Q ⟨T, []⟩ w := by
 have hu : undef = Value.tuple #[] := rfl
 have HQ := hide hQ
 clear hQ
 conv => arg 2; whnf
 go_wp2_with fail
 exact (unhide HQ) _ ⟨(by (repeat (with_reducible refine Fq.Kp.set ?_ (by decide) _)); with_reducible exact Fq.Kp.refl _ _), Fq.set_at _ (by simp [hT]) _⟩
theorem cc_r15 (hT : T.size = 151)
  (hQ : ∀ T', (Fq.Kp 2 T T' ∧ T'[2]? = some (.int .i64 3)) → Q .normal ⟨T', []⟩ (w)) : (Fq.reg Tryz.f6 15).wp Tryz.prog Q ⟨T, []⟩ w := by
 have hu : undef = Value.tuple #[] := rfl
 have HQ := hide hQ
 clear hQ
 conv => arg 2; whnf
 go_wp2_with fail
 exact (unhide HQ) _ ⟨(by (repeat (with_reducible refine Fq.Kp.set ?_ (by decide) _)); with_reducible exact Fq.Kp.refl _ _), Fq.set_at _ (by simp [hT]) _⟩
theorem cc_r21 (hT : T.size = 151)
  (hQ : ∀ T', (Fq.Kp 2 T T' ∧ T'[2]? = some (.int .i64 7)) → Q .normal ⟨T', []⟩ (w)) : (Fq.reg Tryz.f6 21).wp Tryz.prog Q ⟨T, []⟩ w := by
 have hu : undef = Value.tuple #[] := rfl
 have HQ := hide hQ
 clear hQ
 conv => arg 2; whnf
 go_wp2_with fail
 exact (unhide HQ) _ ⟨(by (repeat (with_reducible refine Fq.Kp.set ?_ (by decide) _)); with_reducible exact Fq.Kp.refl _ _), Fq.set_at _ (by simp [hT]) _⟩
theorem cc_r41 (hT : T.size = 151)
  (hQ : ∀ T', (Fq.Kp 2 T T' ∧ T'[2]? = some (.int .i64 3)) → Q .normal ⟨T', []⟩ (w)) : (Fq.reg Tryz.f6 41).wp Tryz.prog Q ⟨T, []⟩ w := by
 have hu : undef = Value.tuple #[] := rfl
 have HQ := hide hQ
 clear hQ
 conv => arg 2; whnf
 go_wp2_with fail
 exact (unhide HQ) _ ⟨(by (repeat (with_reducible refine Fq.Kp.set ?_ (by decide) _)); with_reducible exact Fq.Kp.refl _ _), Fq.set_at _ (by simp [hT]) _⟩
theorem cc_r43 (hT : T.size = 151)
  (hQ : ∀ T', (Fq.Kp 2 T T' ∧ T'[2]? = some (.int .i64 1)) → Q .normal ⟨T', []⟩ (w)) : (Fq.reg Tryz.f6 43).wp Tryz.prog Q ⟨T, []⟩ w := by
 have hu : undef = Value.tuple #[] := rfl
 have HQ := hide hQ
 clear hQ
 conv => arg 2; whnf
 go_wp2_with fail
 exact (unhide HQ) _ ⟨(by (repeat (with_reducible refine Fq.Kp.set ?_ (by decide) _)); with_reducible exact Fq.Kp.refl _ _), Fq.set_at _ (by simp [hT]) _⟩
theorem cc_r44 (hT : T.size = 151)
  (hQ : ∀ T', (Fq.Kp 2 T T' ∧ T'[2]? = some (.int .i64 0)) → Q .normal ⟨T', []⟩ (w)) : (Fq.reg Tryz.f6 44).wp Tryz.prog Q ⟨T, []⟩ w := by
 have hu : undef = Value.tuple #[] := rfl
 have HQ := hide hQ
 clear hQ
 conv => arg 2; whnf
 go_wp2_with fail
 exact (unhide HQ) _ ⟨(by (repeat (with_reducible refine Fq.Kp.set ?_ (by decide) _)); with_reducible exact Fq.Kp.refl _ _), Fq.set_at _ (by simp [hT]) _⟩
theorem cc_r4 {VB : Bool} (hT : T.size = 151) (s1 : T[1]? = some (.pointer (some ⟨bx, 0, none⟩))) (c1 : w.cell? ⟨bx, 1, none⟩ = some (.slice fa fl fc)) (c2 : w.cell? ⟨bx, 2, none⟩ = some (.slice sa sl sc)) (hVB : VB = decide (fl = 0 ∨ fl ≠ sl))
  (hQ : ∀ T', (Fq.Kp 9 T T' ∧ T'[26]? = some (.bool VB)) → Q .normal ⟨T', []⟩ (w)) : (Fq.reg Tryz.f6 4).wp Tryz.prog Q ⟨T, []⟩ w := by
 have a1 := fun h => Fq.el s1 h
 have d1 := Fq.gd s1
 have hu : undef = Value.tuple #[] := rfl
 have HQ := hide hQ
 clear hQ
 conv => arg 2; whnf
 by_cases h1 : fl = 0
 · have HV3 := hide (show VB = true by rw [hVB, decide_eq_true (Or.inl h1)])
   subst h1
   clear hVB
   go_wp2_with fail
   exact (unhide HQ) _ ⟨(by (repeat (with_reducible refine Fq.Kp.set ?_ (by decide) _)); with_reducible exact Fq.Kp.refl _ _), (Fq.set_at _ (by simp [hT]) _).trans (by rw [unhide HV3] <;> rfl)⟩
 · have b0 : (((fl : Nat) : Int) == 0) = false := by simp; exact h1
   by_cases h2 : fl = sl
   · have HV3 := hide (show VB = false by rw [hVB, decide_eq_false (by omega)])
     have b1 : (((fl : Nat) : Int) != ((sl : Nat) : Int)) = false := by simp; omega
     clear hVB h1 h2
     go_wp2_with fail
     exact (unhide HQ) _ ⟨(by (repeat (with_reducible refine Fq.Kp.set ?_ (by decide) _)); with_reducible exact Fq.Kp.refl _ _), (Fq.set_at _ (by simp [hT]) _).trans (by rw [unhide HV3] <;> rfl)⟩
   · have HV3 := hide (show VB = true by rw [hVB, decide_eq_true (Or.inr h2)])
     have b1 : (((fl : Nat) : Int) != ((sl : Nat) : Int)) = true := by simp; omega
     clear hVB h1 h2
     go_wp2_with fail
     exact (unhide HQ) _ ⟨(by (repeat (with_reducible refine Fq.Kp.set ?_ (by decide) _)); with_reducible exact Fq.Kp.refl _ _), (Fq.set_at _ (by simp [hT]) _).trans (by rw [unhide HV3] <;> rfl)⟩
theorem cc_r6 (hT : T.size = 151)
  (hQ : ∀ T', (Fq.Kp 4 T T' ∧ T'[4]? = some (.int .i64 0)) → Q .normal ⟨T', []⟩ (w)) : (Fq.reg Tryz.f6 6).wp Tryz.prog Q ⟨T, []⟩ w := by
 have hu : undef = Value.tuple #[] := rfl
 have HQ := hide hQ
 clear hQ
 conv => arg 2; whnf
 go_wp2_with fail
 exact (unhide HQ) _ ⟨(by (repeat (with_reducible refine Fq.Kp.set ?_ (by decide) _)); with_reducible exact Fq.Kp.refl _ _), Fq.set_at _ (by simp [hT]) _⟩
theorem cc_r11 (hT : T.size = 151)
  (hQ : ∀ T', (Fq.Kp 5 T T' ∧ T'[5]? = some (.int .i64 0)) → Q .normal ⟨T', []⟩ (w)) : (Fq.reg Tryz.f6 11).wp Tryz.prog Q ⟨T, []⟩ w := by
 have hu : undef = Value.tuple #[] := rfl
 have HQ := hide hQ
 clear hQ
 conv => arg 2; whnf
 go_wp2_with fail
 exact (unhide HQ) _ ⟨(by (repeat (with_reducible refine Fq.Kp.set ?_ (by decide) _)); with_reducible exact Fq.Kp.refl _ _), Fq.set_at _ (by simp [hT]) _⟩
theorem cc_r16 (hT : T.size = 151)
  (hQ : ∀ T', (Fq.Kp 6 T T' ∧ T'[6]? = some (.int .i64 0)) → Q .normal ⟨T', []⟩ (w)) : (Fq.reg Tryz.f6 16).wp Tryz.prog Q ⟨T, []⟩ w := by
 have hu : undef = Value.tuple #[] := rfl
 have HQ := hide hQ
 clear hQ
 conv => arg 2; whnf
 go_wp2_with fail
 exact (unhide HQ) _ ⟨(by (repeat (with_reducible refine Fq.Kp.set ?_ (by decide) _)); with_reducible exact Fq.Kp.refl _ _), Fq.set_at _ (by simp [hT]) _⟩
theorem cc_r22 (hT : T.size = 151)
  (hQ : ∀ T', (Fq.Kp 8 T T' ∧ T'[8]? = some (.bool true)) → Q .normal ⟨T', []⟩ (w)) : (Fq.reg Tryz.f6 22).wp Tryz.prog Q ⟨T, []⟩ w := by
 have hu : undef = Value.tuple #[] := rfl
 have HQ := hide hQ
 clear hQ
 conv => arg 2; whnf
 go_wp2_with fail
 exact (unhide HQ) _ ⟨(by (repeat (with_reducible refine Fq.Kp.set ?_ (by decide) _)); with_reducible exact Fq.Kp.refl _ _), Fq.set_at _ (by simp [hT]) _⟩
theorem cc_r7 {i : Nat} {VB : Bool} (hT : T.size = 151) (s1 : T[1]? = some (.pointer (some ⟨bx, 0, none⟩))) (s4 : T[4]? = some (.int .i64 (i : Nat))) (c1 : w.cell? ⟨bx, 1, none⟩ = some (.slice fa fl fc)) (hVB : VB = decide ((i : Int) < (fl : Nat)))
  (hQ : ∀ T', (Fq.Kp 9 T T' ∧ T'[31]? = some (.bool VB)) → Q .normal ⟨T', []⟩ (w)) : (Fq.reg Tryz.f6 7).wp Tryz.prog Q ⟨T, []⟩ w := by
 have a1 := fun h => Fq.el s1 h
 have d1 := Fq.gd s1
 have a4 := fun h => Fq.el s4 h
 have d4 := Fq.gd s4
 have hu : undef = Value.tuple #[] := rfl
 have HQ := hide hQ
 clear hQ
 conv => arg 2; whnf
 by_cases hR : (i : Int) < (fl : Nat)
 · have HV3 := hide (show VB = true by rw [hVB, decide_eq_true hR] <;> rfl)
   skip
   clear hVB
   go_wp2_with fail
   exact (unhide HQ) _ ⟨(by (repeat (with_reducible refine Fq.Kp.set ?_ (by decide) _)); with_reducible exact Fq.Kp.refl _ _), (Fq.set_at _ (by simp [hT]) _).trans (by rw [unhide HV3] <;> rfl)⟩
 · have HV3 := hide (show VB = false by rw [hVB, decide_eq_false hR] <;> rfl)
   skip
   clear hVB
   go_wp2_with fail
   exact (unhide HQ) _ ⟨(by (repeat (with_reducible refine Fq.Kp.set ?_ (by decide) _)); with_reducible exact Fq.Kp.refl _ _), (Fq.set_at _ (by simp [hT]) _).trans (by rw [unhide HV3] <;> rfl)⟩
theorem cc_r8 {i : Nat} (hT : T.size = 151) (s4 : T[4]? = some (.int .i64 (i : Nat))) (hi : i ≤ 35184372088832)
  (hQ : ∀ T', (Fq.Kp 4 T T' ∧ T'[4]? = some (.int .i64 ((i + 1 : Nat) : Int))) → Q .normal ⟨T', []⟩ (w)) : (Fq.reg Tryz.f6 8).wp Tryz.prog Q ⟨T, []⟩ w := by
 have a4 := fun h => Fq.el s4 h
 have d4 := Fq.gd s4
 have hu : undef = Value.tuple #[] := rfl
 have HQ := hide hQ
 clear hQ
 conv => arg 2; whnf
 go_wp2_with fail
 exact (unhide HQ) _ ⟨(by (repeat (with_reducible refine Fq.Kp.set ?_ (by decide) _)); with_reducible exact Fq.Kp.refl _ _), (Fq.set_at _ (by simp [hT]) _).trans (congrArg some (by go_num))⟩
theorem cc_r13 {i : Nat} (hT : T.size = 151) (s5 : T[5]? = some (.int .i64 (i : Nat))) (hi : i ≤ 35184372088832)
  (hQ : ∀ T', (Fq.Kp 5 T T' ∧ T'[5]? = some (.int .i64 ((i + 1 : Nat) : Int))) → Q .normal ⟨T', []⟩ (w)) : (Fq.reg Tryz.f6 13).wp Tryz.prog Q ⟨T, []⟩ w := by
 have a5 := fun h => Fq.el s5 h
 have d5 := Fq.gd s5
 have hu : undef = Value.tuple #[] := rfl
 have HQ := hide hQ
 clear hQ
 conv => arg 2; whnf
 go_wp2_with fail
 exact (unhide HQ) _ ⟨(by (repeat (with_reducible refine Fq.Kp.set ?_ (by decide) _)); with_reducible exact Fq.Kp.refl _ _), (Fq.set_at _ (by simp [hT]) _).trans (congrArg some (by go_num))⟩
theorem cc_r18 {i : Nat} (hT : T.size = 151) (s6 : T[6]? = some (.int .i64 (i : Nat))) (hi : i ≤ 35184372088832)
  (hQ : ∀ T', (Fq.Kp 6 T T' ∧ T'[6]? = some (.int .i64 ((i + 1 : Nat) : Int))) → Q .normal ⟨T', []⟩ (w)) : (Fq.reg Tryz.f6 18).wp Tryz.prog Q ⟨T, []⟩ w := by
 have a6 := fun h => Fq.el s6 h
 have d6 := Fq.gd s6
 have hu : undef = Value.tuple #[] := rfl
 have HQ := hide hQ
 clear hQ
 conv => arg 2; whnf
 go_wp2_with fail
 exact (unhide HQ) _ ⟨(by (repeat (with_reducible refine Fq.Kp.set ?_ (by decide) _)); with_reducible exact Fq.Kp.refl _ _), (Fq.set_at _ (by simp [hT]) _).trans (congrArg some (by go_num))⟩
theorem cc_r9 {i b o : Nat} {z : Int} {VB : Bool} (hT : T.size = 151) (s1 : T[1]? = some (.pointer (some ⟨bx, 0, none⟩))) (s3 : T[3]? = some (.int .i64 (il : Nat))) (s4 : T[4]? = some (.int .i64 (i : Nat))) (c1 : w.cell? ⟨bx, 1, none⟩ = some (.slice (some ⟨b, o, none⟩) fl fc)) (hi : i < fl) (hfl : fl ≤ 35184372088832) (hil : il ≤ 35184372088832) (hz : w.cell? ⟨b, o + i, none⟩ = some (.int .i64 z)) (hVB : decide (0 ≤ z ∧ z ≤ (il : Int) - 1) = VB)
  (hQ : ∀ T', (Fq.Kp 9 T T' ∧ T'[42]? = some (.bool (!VB))) → Q .normal ⟨T', []⟩ (w)) : (Fq.reg Tryz.f6 9).wp Tryz.prog Q ⟨T, []⟩ w := by
 have a1 := fun h => Fq.el s1 h
 have d1 := Fq.gd s1
 have a3 := fun h => Fq.el s3 h
 have d3 := Fq.gd s3
 have a4 := fun h => Fq.el s4 h
 have d4 := Fq.gd s4
 have hu : undef = Value.tuple #[] := rfl
 have HQ := hide hQ
 clear hQ
 conv => arg 2; whnf
 have H1 := hide (between_any (z) (0) ((il : Int) - 1) w)
 rw [hVB] at H1
 have hi0 : (0 : Int) ≤ (i : Int) := by omega
 have hi1 : (i : Int) < (fl : Int) := by omega
 have hw0 : IntKind.i64.wrap ((il : Int) - 1) = (il : Int) - 1 := by rw [IntKind.wrap_i64]; omega
 clear hVB
 go_wp2_with (with_reducible refine (Calls.mono (unhide H1) ?_); rintro r w2 ⟨rfl, hw2⟩; have hw3 := hw2.symm; clear hw2; subst hw3)
 exact (unhide HQ) _ ⟨(by (repeat (with_reducible refine Fq.Kp.set ?_ (by decide) _)); with_reducible exact Fq.Kp.refl _ _), Fq.set_at _ (by simp [hT]) _⟩
theorem cc_r12 {i k b o tn tc : Nat} {ta : Option Addr} {VB : Bool} (hT : T.size = 151) (s1 : T[1]? = some (.pointer (some ⟨bx, 0, none⟩))) (s4 : T[4]? = some (.int .i64 (i : Nat))) (s5 : T[5]? = some (.int .i64 (k : Nat))) (c2 : w.cell? ⟨bx, 2, none⟩ = some (.slice (some ⟨b, o, none⟩) sl sc)) (hi0 : (0 : Int) ≤ (i : Int)) (hi1 : (i : Int) < (sl : Int)) (hz : w.cell? ⟨b, o + i, none⟩ = some (.slice ta tn tc)) (hVB : VB = decide ((k : Int) < (tn : Nat)))
  (hQ : ∀ T', (Fq.Kp 9 T T' ∧ T'[50]? = some (.bool VB)) → Q .normal ⟨T', []⟩ (w)) : (Fq.reg Tryz.f6 12).wp Tryz.prog Q ⟨T, []⟩ w := by
 have a1 := fun h => Fq.el s1 h
 have d1 := Fq.gd s1
 have a4 := fun h => Fq.el s4 h
 have d4 := Fq.gd s4
 have a5 := fun h => Fq.el s5 h
 have d5 := Fq.gd s5
 have hu : undef = Value.tuple #[] := rfl
 have HQ := hide hQ
 clear hQ
 conv => arg 2; whnf
 by_cases hR : (k : Int) < (tn : Nat)
 · have HV3 := hide (show VB = true by rw [hVB, decide_eq_true hR] <;> rfl)
   skip
   clear hVB
   go_wp2_with fail
   exact (unhide HQ) _ ⟨(by (repeat (with_reducible refine Fq.Kp.set ?_ (by decide) _)); with_reducible exact Fq.Kp.refl _ _), (Fq.set_at _ (by simp [hT]) _).trans (by rw [unhide HV3] <;> rfl)⟩
 · have HV3 := hide (show VB = false by rw [hVB, decide_eq_false hR] <;> rfl)
   skip
   clear hVB
   go_wp2_with fail
   exact (unhide HQ) _ ⟨(by (repeat (with_reducible refine Fq.Kp.set ?_ (by decide) _)); with_reducible exact Fq.Kp.refl _ _), (Fq.set_at _ (by simp [hT]) _).trans (by rw [unhide HV3] <;> rfl)⟩
theorem cc_r14 {i k b o b2 o2 tn tc : Nat} {z : Int} {VB : Bool} (hT : T.size = 151) (s1 : T[1]? = some (.pointer (some ⟨bx, 0, none⟩))) (s4 : T[4]? = some (.int .i64 (i : Nat))) (s5 : T[5]? = some (.int .i64 (k : Nat))) (c2 : w.cell? ⟨bx, 2, none⟩ = some (.slice (some ⟨b, o, none⟩) sl sc)) (hi0 : (0 : Int) ≤ (i : Int)) (hi1 : (i : Int) < (sl : Int)) (hz : w.cell? ⟨b, o + i, none⟩ = some (.slice (some ⟨b2, o2, none⟩) tn tc)) (hk0 : (0 : Int) ≤ (k : Int)) (hk1 : (k : Int) < (tn : Int)) (hy : w.cell? ⟨b2, o2 + k, none⟩ = some (.int .i64 z)) (hVB : decide (0 ≤ z ∧ z ≤ 8) = VB)
  (hQ : ∀ T', (Fq.Kp 9 T T' ∧ T'[62]? = some (.bool (!VB))) → Q .normal ⟨T', []⟩ (w)) : (Fq.reg Tryz.f6 14).wp Tryz.prog Q ⟨T, []⟩ w := by
 have a1 := fun h => Fq.el s1 h
 have d1 := Fq.gd s1
 have a4 := fun h => Fq.el s4 h
 have d4 := Fq.gd s4
 have a5 := fun h => Fq.el s5 h
 have d5 := Fq.gd s5
 have hu : undef = Value.tuple #[] := rfl
 have HQ := hide hQ
 clear hQ
 conv => arg 2; whnf
 have H1 := hide (between_any (z) (0) (8) w)
 rw [hVB] at H1
 clear hVB
 go_wp2_with (with_reducible refine (Calls.mono (unhide H1) ?_); rintro r w2 ⟨rfl, hw2⟩; have hw3 := hw2.symm; clear hw2; subst hw3)
 exact (unhide HQ) _ ⟨(by (repeat (with_reducible refine Fq.Kp.set ?_ (by decide) _)); with_reducible exact Fq.Kp.refl _ _), Fq.set_at _ (by simp [hT]) _⟩
theorem cc_r17 {i : Nat} {VB : Bool} (hT : T.size = 151) (s3 : T[3]? = some (.int .i64 (il : Nat))) (s6 : T[6]? = some (.int .i64 (i : Nat)))  (hVB : VB = decide ((i : Int) < (il : Nat)))
  (hQ : ∀ T', (Fq.Kp 9 T T' ∧ T'[65]? = some (.bool VB)) → Q .normal ⟨T', []⟩ (w)) : (Fq.reg Tryz.f6 17).wp Tryz.prog Q ⟨T, []⟩ w := by
 have a3 := fun h => Fq.el s3 h
 have d3 := Fq.gd s3
 have a6 := fun h => Fq.el s6 h
 have d6 := Fq.gd s6
 have hu : undef = Value.tuple #[] := rfl
 have HQ := hide hQ
 clear hQ
 conv => arg 2; whnf
 by_cases hR : (i : Int) < (il : Nat)
 · have HV3 := hide (show VB = true by rw [hVB, decide_eq_true hR] <;> rfl)
   skip
   clear hVB
   go_wp2_with fail
   exact (unhide HQ) _ ⟨(by (repeat (with_reducible refine Fq.Kp.set ?_ (by decide) _)); with_reducible exact Fq.Kp.refl _ _), (Fq.set_at _ (by simp [hT]) _).trans (by rw [unhide HV3] <;> rfl)⟩
 · have HV3 := hide (show VB = false by rw [hVB, decide_eq_false hR] <;> rfl)
   skip
   clear hVB
   go_wp2_with fail
   exact (unhide HQ) _ ⟨(by (repeat (with_reducible refine Fq.Kp.set ?_ (by decide) _)); with_reducible exact Fq.Kp.refl _ _), (Fq.set_at _ (by simp [hT]) _).trans (by rw [unhide HV3] <;> rfl)⟩
theorem cc_r19 {i b o : Nat} {k a bb : Int} (hT : T.size = 151) (s1 : T[1]? = some (.pointer (some ⟨bx, 0, none⟩))) (s6 : T[6]? = some (.int .i64 (i : Nat))) (c0 : w.cell? ⟨bx, 0, none⟩ = some (.slice (some ⟨b, o, none⟩) il ic)) (hi0 : (0 : Int) ≤ (i : Int)) (hi1 : (i : Int) < (il : Int)) (e0 : w.cell? ⟨b, o + i * 3, none⟩ = some (.int .i64 k)) (e1 : w.cell? ⟨b, o + i * 3 + 1, none⟩ = some (.int .i64 a)) (e2 : w.cell? ⟨b, o + i * 3 + 2, none⟩ = some (.int .i64 bb))
  (hQ : ∀ T', (Fq.Kp 7 T T' ∧ T'[7]? = some (.pointer (some ⟨w.heap.size, 0, none⟩))) → Q .normal ⟨T', []⟩ (w.alloc (Obj.cells #[.int .i64 k, .int .i64 a, .int .i64 bb] 54))) : (Fq.reg Tryz.f6 19).wp Tryz.prog Q ⟨T, []⟩ w := by
 have a1 := fun h => Fq.el s1 h
 have d1 := Fq.gd s1
 have a6 := fun h => Fq.el s6 h
 have d6 := Fq.gd s6
 have hu : undef = Value.tuple #[] := rfl
 have HQ := hide hQ
 clear hQ
 conv => arg 2; whnf
 go_wp2_with fail
 exact (unhide HQ) _ ⟨(by (repeat (with_reducible refine Fq.Kp.set ?_ (by decide) _)); with_reducible exact Fq.Kp.refl _ _), Fq.set_at _ (by simp [hT]) _⟩
theorem cc_r20 {b7 : Nat} {k : Int} {VB : Bool} (hT : T.size = 151) (s7 : T[7]? = some (.pointer (some ⟨b7, 0, none⟩))) (g0 : w.cell? ⟨b7, 0, none⟩ = some (.int .i64 k)) (hVB : decide (1 ≤ k ∧ k ≤ 14) = VB)
  (hQ : ∀ T', (Fq.Kp 9 T T' ∧ T'[76]? = some (.bool (!VB))) → Q .normal ⟨T', []⟩ (w)) : (Fq.reg Tryz.f6 20).wp Tryz.prog Q ⟨T, []⟩ w := by
 have a7 := fun h => Fq.el s7 h
 have d7 := Fq.gd s7
 have hu : undef = Value.tuple #[] := rfl
 have HQ := hide hQ
 clear hQ
 conv => arg 2; whnf
 have H1 := hide (between_any (k) (1) (14) w)
 rw [hVB] at H1
 clear hVB
 go_wp2_with (with_reducible refine (Calls.mono (unhide H1) ?_); rintro r w2 ⟨rfl, hw2⟩; have hw3 := hw2.symm; clear hw2; subst hw3)
 exact (unhide HQ) _ ⟨(by (repeat (with_reducible refine Fq.Kp.set ?_ (by decide) _)); with_reducible exact Fq.Kp.refl _ _), Fq.set_at _ (by simp [hT]) _⟩
theorem cc_r23 {b7 : Nat} {k : Int} (hT : T.size = 151) (s7 : T[7]? = some (.pointer (some ⟨b7, 0, none⟩))) (g0 : w.cell? ⟨b7, 0, none⟩ = some (.int .i64 k))
  (hQ : ∀ T', (Fq.Kp 9 T T' ∧ T'[78]? = some (.int .i64 k)) → Q .normal ⟨T', []⟩ (w)) : (Fq.reg Tryz.f6 23).wp Tryz.prog Q ⟨T, []⟩ w := by
 have a7 := fun h => Fq.el s7 h
 have d7 := Fq.gd s7
 have hu : undef = Value.tuple #[] := rfl
 have HQ := hide hQ
 clear hQ
 conv => arg 2; whnf
 go_wp2_with fail
 exact (unhide HQ) _ ⟨(by (repeat (with_reducible refine Fq.Kp.set ?_ (by decide) _)); with_reducible exact Fq.Kp.refl _ _), Fq.set_at _ (by simp [hT]) _⟩
theorem cc_r24 {k : Int} {VB : Bool} (hT : T.size = 151) (s78 : T[78]? = some (.int .i64 k))  (hVB : VB = decide (k = 2))
  (hQ : ∀ T', (Fq.Kp 79 T T' ∧ T'[79]? = some (.bool VB)) → Q .normal ⟨T', []⟩ (w)) : (Fq.reg Tryz.f6 24).wp Tryz.prog Q ⟨T, []⟩ w := by
 have a78 := fun h => Fq.el s78 h
 have d78 := Fq.gd s78
 have hu : undef = Value.tuple #[] := rfl
 have HQ := hide hQ
 clear hQ
 conv => arg 2; whnf
 by_cases hR : k = 2
 · have HV3 := hide (show VB = true by rw [hVB, decide_eq_true hR] <;> rfl)
   subst hR
   clear hVB
   go_wp2_with fail
   exact (unhide HQ) _ ⟨(by (repeat (with_reducible refine Fq.Kp.set ?_ (by decide) _)); with_reducible exact Fq.Kp.refl _ _), (Fq.set_at _ (by simp [hT]) _).trans (by rw [unhide HV3] <;> rfl)⟩
 · have HV3 := hide (show VB = false by rw [hVB, decide_eq_false hR] <;> rfl)
   have b0 : (k == 2) = false := by simpa using hR
   clear hVB
   go_wp2_with fail
   exact (unhide HQ) _ ⟨(by (repeat (with_reducible refine Fq.Kp.set ?_ (by decide) _)); with_reducible exact Fq.Kp.refl _ _), (Fq.set_at _ (by simp [hT]) _).trans (by rw [unhide HV3] <;> rfl)⟩
theorem cc_r25 {b7 : Nat} {a : Int} {VB : Bool} (hT : T.size = 151) (s7 : T[7]? = some (.pointer (some ⟨b7, 0, none⟩))) (g1 : w.cell? ⟨b7, 1, none⟩ = some (.int .i64 a)) (hVB : Pg.beyond a = VB)
  (hQ : ∀ T', (Fq.Kp 8 T T' ∧ T'[8]? = some (.bool (!VB))) → Q .normal ⟨T', []⟩ (w)) : (Fq.reg Tryz.f6 25).wp Tryz.prog Q ⟨T, []⟩ w := by
 have a7 := fun h => Fq.el s7 h
 have d7 := Fq.gd s7
 have hu : undef = Value.tuple #[] := rfl
 have HQ := hide hQ
 clear hQ
 conv => arg 2; whnf
 have H1 := hide (IsNumber_any a w)
 rw [hVB] at H1
 clear hVB
 go_wp2_with (with_reducible refine (Calls.mono (unhide H1) ?_); rintro r w2 ⟨rfl, hw2⟩; have hw3 := hw2.symm; clear hw2; subst hw3)
 exact (unhide HQ) _ ⟨(by (repeat (with_reducible refine Fq.Kp.set ?_ (by decide) _)); with_reducible exact Fq.Kp.refl _ _), Fq.set_at _ (by simp [hT]) _⟩
theorem cc_r26 {k : Int} {VB : Bool} (hT : T.size = 151) (s78 : T[78]? = some (.int .i64 k))  (hVB : VB = decide (k = 10))
  (hQ : ∀ T', (Fq.Kp 79 T T' ∧ T'[84]? = some (.bool VB)) → Q .normal ⟨T', []⟩ (w)) : (Fq.reg Tryz.f6 26).wp Tryz.prog Q ⟨T, []⟩ w := by
 have a78 := fun h => Fq.el s78 h
 have d78 := Fq.gd s78
 have hu : undef = Value.tuple #[] := rfl
 have HQ := hide hQ
 clear hQ
 conv => arg 2; whnf
 by_cases hR : k = 10
 · have HV3 := hide (show VB = true by rw [hVB, decide_eq_true hR] <;> rfl)
   subst hR
   clear hVB
   go_wp2_with fail
   exact (unhide HQ) _ ⟨(by (repeat (with_reducible refine Fq.Kp.set ?_ (by decide) _)); with_reducible exact Fq.Kp.refl _ _), (Fq.set_at _ (by simp [hT]) _).trans (by rw [unhide HV3] <;> rfl)⟩
 · have HV3 := hide (show VB = false by rw [hVB, decide_eq_false hR] <;> rfl)
   have b0 : (k == 10) = false := by simpa using hR
   clear hVB
   go_wp2_with fail
   exact (unhide HQ) _ ⟨(by (repeat (with_reducible refine Fq.Kp.set ?_ (by decide) _)); with_reducible exact Fq.Kp.refl _ _), (Fq.set_at _ (by simp [hT]) _).trans (by rw [unhide HV3] <;> rfl)⟩
theorem cc_r27 {k : Int} {VB : Bool} (hT : T.size = 151) (s78 : T[78]? = some (.int .i64 k))  (hVB : VB = decide (k = 11))
  (hQ : ∀ T', (Fq.Kp 79 T T' ∧ T'[84]? = some (.bool VB)) → Q .normal ⟨T', []⟩ (w)) : (Fq.reg Tryz.f6 27).wp Tryz.prog Q ⟨T, []⟩ w := by
 have a78 := fun h => Fq.el s78 h
 have d78 := Fq.gd s78
 have hu : undef = Value.tuple #[] := rfl
 have HQ := hide hQ
 clear hQ
 conv => arg 2; whnf
 by_cases hR : k = 11
 · have HV3 := hide (show VB = true by rw [hVB, decide_eq_true hR] <;> rfl)
   subst hR
   clear hVB
   go_wp2_with fail
   exact (unhide HQ) _ ⟨(by (repeat (with_reducible refine Fq.Kp.set ?_ (by decide) _)); with_reducible exact Fq.Kp.refl _ _), (Fq.set_at _ (by simp [hT]) _).trans (by rw [unhide HV3] <;> rfl)⟩
 · have HV3 := hide (show VB = false by rw [hVB, decide_eq_false hR] <;> rfl)
   have b0 : (k == 11) = false := by simpa using hR
   clear hVB
   go_wp2_with fail
   exact (unhide HQ) _ ⟨(by (repeat (with_reducible refine Fq.Kp.set ?_ (by decide) _)); with_reducible exact Fq.Kp.refl _ _), (Fq.set_at _ (by simp [hT]) _).trans (by rw [unhide HV3] <;> rfl)⟩
theorem cc_r28 {b7 : Nat} {a : Int} {VB : Bool} (hT : T.size = 151) (s3 : T[3]? = some (.int .i64 (il : Nat))) (s7 : T[7]? = some (.pointer (some ⟨b7, 0, none⟩))) (g1 : w.cell? ⟨b7, 1, none⟩ = some (.int .i64 a)) (hil : il ≤ 35184372088832) (hVB : decide (0 ≤ a ∧ a ≤ (il : Int) - 1) = VB)
  (hQ : ∀ T', (Fq.Kp 8 T T' ∧ T'[8]? = some (.bool VB)) → Q .normal ⟨T', []⟩ (w)) : (Fq.reg Tryz.f6 28).wp Tryz.prog Q ⟨T, []⟩ w := by
 have a3 := fun h => Fq.el s3 h
 have d3 := Fq.gd s3
 have a7 := fun h => Fq.el s7 h
 have d7 := Fq.gd s7
 have hu : undef = Value.tuple #[] := rfl
 have HQ := hide hQ
 clear hQ
 conv => arg 2; whnf
 have H1 := hide (between_any (a) (0) ((il : Int) - 1) w)
 rw [hVB] at H1
 have hw0 : IntKind.i64.wrap ((il : Int) - 1) = (il : Int) - 1 := by rw [IntKind.wrap_i64]; omega
 clear hVB
 go_wp2_with (with_reducible refine (Calls.mono (unhide H1) ?_); rintro r w2 ⟨rfl, hw2⟩; have hw3 := hw2.symm; clear hw2; subst hw3)
 exact (unhide HQ) _ ⟨(by (repeat (with_reducible refine Fq.Kp.set ?_ (by decide) _)); with_reducible exact Fq.Kp.refl _ _), Fq.set_at _ (by simp [hT]) _⟩
theorem cc_r29 {k : Int} {VB : Bool} (hT : T.size = 151) (s78 : T[78]? = some (.int .i64 k))  (hVB : VB = decide (k = 5))
  (hQ : ∀ T', (Fq.Kp 79 T T' ∧ T'[92]? = some (.bool VB)) → Q .normal ⟨T', []⟩ (w)) : (Fq.reg Tryz.f6 29).wp Tryz.prog Q ⟨T, []⟩ w := by
 have a78 := fun h => Fq.el s78 h
 have d78 := Fq.gd s78
 have hu : undef = Value.tuple #[] := rfl
 have HQ := hide hQ
 clear hQ
 conv => arg 2; whnf
 by_cases hR : k = 5
 · have HV3 := hide (show VB = true by rw [hVB, decide_eq_true hR] <;> rfl)
   subst hR
   clear hVB
   go_wp2_with fail
   exact (unhide HQ) _ ⟨(by (repeat (with_reducible refine Fq.Kp.set ?_ (by decide) _)); with_reducible exact Fq.Kp.refl _ _), (Fq.set_at _ (by simp [hT]) _).trans (by rw [unhide HV3] <;> rfl)⟩
 · have HV3 := hide (show VB = false by rw [hVB, decide_eq_false hR] <;> rfl)
   have b0 : (k == 5) = false := by simpa using hR
   clear hVB
   go_wp2_with fail
   exact (unhide HQ) _ ⟨(by (repeat (with_reducible refine Fq.Kp.set ?_ (by decide) _)); with_reducible exact Fq.Kp.refl _ _), (Fq.set_at _ (by simp [hT]) _).trans (by rw [unhide HV3] <;> rfl)⟩
theorem cc_r30 {b7 : Nat} {a : Int} {VB : Bool} (hT : T.size = 151) (s7 : T[7]? = some (.pointer (some ⟨b7, 0, none⟩))) (g1 : w.cell? ⟨b7, 1, none⟩ = some (.int .i64 a)) (hVB : decide (4 ≤ a ∧ a ≤ 10) = VB)
  (hQ : ∀ T', (Fq.Kp 8 T T' ∧ T'[8]? = some (.bool VB)) → Q .normal ⟨T', []⟩ (w)) : (Fq.reg Tryz.f6 30).wp Tryz.prog Q ⟨T, []⟩ w := by
 have a7 := fun h => Fq.el s7 h
 have d7 := Fq.gd s7
 have hu : undef = Value.tuple #[] := rfl
 have HQ := hide hQ
 clear hQ
 conv => arg 2; whnf
 have H1 := hide (between_any (a) (4) (10) w)
 rw [hVB] at H1
 clear hVB
 go_wp2_with (with_reducible refine (Calls.mono (unhide H1) ?_); rintro r w2 ⟨rfl, hw2⟩; have hw3 := hw2.symm; clear hw2; subst hw3)
 exact (unhide HQ) _ ⟨(by (repeat (with_reducible refine Fq.Kp.set ?_ (by decide) _)); with_reducible exact Fq.Kp.refl _ _), Fq.set_at _ (by simp [hT]) _⟩
theorem cc_r31 {k : Int} {VB : Bool} (hT : T.size = 151) (s78 : T[78]? = some (.int .i64 k))  (hVB : VB = decide (k = 12))
  (hQ : ∀ T', (Fq.Kp 79 T T' ∧ T'[97]? = some (.bool VB)) → Q .normal ⟨T', []⟩ (w)) : (Fq.reg Tryz.f6 31).wp Tryz.prog Q ⟨T, []⟩ w := by
 have a78 := fun h => Fq.el s78 h
 have d78 := Fq.gd s78
 have hu : undef = Value.tuple #[] := rfl
 have HQ := hide hQ
 clear hQ
 conv => arg 2; whnf
 by_cases hR : k = 12
 · have HV3 := hide (show VB = true by rw [hVB, decide_eq_true hR] <;> rfl)
   subst hR
   clear hVB
   go_wp2_with fail
   exact (unhide HQ) _ ⟨(by (repeat (with_reducible refine Fq.Kp.set ?_ (by decide) _)); with_reducible exact Fq.Kp.refl _ _), (Fq.set_at _ (by simp [hT]) _).trans (by rw [unhide HV3] <;> rfl)⟩
 · have HV3 := hide (show VB = false by rw [hVB, decide_eq_false hR] <;> rfl)
   have b0 : (k == 12) = false := by simpa using hR
   clear hVB
   go_wp2_with fail
   exact (unhide HQ) _ ⟨(by (repeat (with_reducible refine Fq.Kp.set ?_ (by decide) _)); with_reducible exact Fq.Kp.refl _ _), (Fq.set_at _ (by simp [hT]) _).trans (by rw [unhide HV3] <;> rfl)⟩
theorem cc_r32 {b7 : Nat} {a bb : Int} {V1 V2 : Bool} (hT : T.size = 151) (s1 : T[1]? = some (.pointer (some ⟨bx, 0, none⟩))) (s7 : T[7]? = some (.pointer (some ⟨b7, 0, none⟩))) (g1 : w.cell? ⟨b7, 1, none⟩ = some (.int .i64 a)) (g2 : w.cell? ⟨b7, 2, none⟩ = some (.int .i64 bb)) (c1 : w.cell? ⟨bx, 1, none⟩ = some (.slice fa fl fc)) (hfl : fl ≤ 35184372088832) (hV1 : decide (0 ≤ a ∧ a ≤ (fl : Int) - 1) = V1) (hV2 : decide (0 ≤ bb ∧ bb ≤ 3) = V2)
  (hQ : ∀ T', (Fq.Kp 8 T T' ∧ T'[8]? = some (.bool (V1 && V2))) → Q .normal ⟨T', []⟩ (w)) : (Fq.reg Tryz.f6 32).wp Tryz.prog Q ⟨T, []⟩ w := by
 have a1 := fun h => Fq.el s1 h
 have d1 := Fq.gd s1
 have a7 := fun h => Fq.el s7 h
 have d7 := Fq.gd s7
 have hu : undef = Value.tuple #[] := rfl
 have HQ := hide hQ
 clear hQ
 conv => arg 2; whnf
 have H1 := hide (between_any a 0 ((fl : Int) - 1) w)
 have H2 := hide (between_any bb 0 3 w)
 rw [hV1] at H1
 rw [hV2] at H2
 have hw0 : IntKind.i64.wrap ((fl : Int) - 1) = (fl : Int) - 1 := by rw [IntKind.wrap_i64]; omega
 clear hV1 hV2
 cases V1
 · go_wp2_with (with_reducible refine (Calls.mono (unhide H1) ?_); rintro r w2 ⟨rfl, hw2⟩; have hw3 := hw2.symm; clear hw2; subst hw3)
   exact (unhide HQ) _ ⟨(by (repeat (with_reducible refine Fq.Kp.set ?_ (by decide) _)); with_reducible exact Fq.Kp.refl _ _), (Fq.set_at _ (by simp [hT]) _).trans (rfl)⟩
 · go_wp2_with (first | (with_reducible refine (Calls.mono (unhide H1) ?_); rintro r w2 ⟨rfl, hw2⟩; have hw3 := hw2.symm; clear hw2; subst hw3) | (with_reducible refine (Calls.mono (unhide H2) ?_); rintro r w2 ⟨rfl, hw2⟩; have hw3 := hw2.symm; clear hw2; subst hw3))
   exact (unhide HQ) _ ⟨(by (repeat (with_reducible refine Fq.Kp.set ?_ (by decide) _)); with_reducible exact Fq.Kp.refl _ _), (Fq.set_at _ (by simp [hT]) _).trans (rfl)⟩
theorem cc_r33 {k : Int} {VB : Bool} (hT : T.size = 151) (s78 : T[78]? = some (.int .i64 k))  (hVB : VB = decide (k = 1))
  (hQ : ∀ T', (Fq.Kp 79 T T' ∧ T'[111]? = some (.bool VB)) → Q .normal ⟨T', []⟩ (w)) : (Fq.reg Tryz.f6 33).wp Tryz.prog Q ⟨T, []⟩ w := by
 have a78 := fun h => Fq.el s78 h
 have d78 := Fq.gd s78
 have hu : undef = Value.tuple #[] := rfl
 have HQ := hide hQ
 clear hQ
 conv => arg 2; whnf
 by_cases hR : k = 1
 · have HV3 := hide (show VB = true by rw [hVB, decide_eq_true hR] <;> rfl)
   subst hR
   clear hVB
   go_wp2_with fail
   exact (unhide HQ) _ ⟨(by (repeat (with_reducible refine Fq.Kp.set ?_ (by decide) _)); with_reducible exact Fq.Kp.refl _ _), (Fq.set_at _ (by simp [hT]) _).trans (by rw [unhide HV3] <;> rfl)⟩
 · have HV3 := hide (show VB = false by rw [hVB, decide_eq_false hR] <;> rfl)
   have b0 : (k == 1) = false := by simpa using hR
   clear hVB
   go_wp2_with fail
   exact (unhide HQ) _ ⟨(by (repeat (with_reducible refine Fq.Kp.set ?_ (by decide) _)); with_reducible exact Fq.Kp.refl _ _), (Fq.set_at _ (by simp [hT]) _).trans (by rw [unhide HV3] <;> rfl)⟩
theorem cc_r34 {k : Int} {VB : Bool} (hT : T.size = 151) (s78 : T[78]? = some (.int .i64 k))  (hVB : VB = decide (k = 3))
  (hQ : ∀ T', (Fq.Kp 79 T T' ∧ T'[111]? = some (.bool VB)) → Q .normal ⟨T', []⟩ (w)) : (Fq.reg Tryz.f6 34).wp Tryz.prog Q ⟨T, []⟩ w := by
 have a78 := fun h => Fq.el s78 h
 have d78 := Fq.gd s78
 have hu : undef = Value.tuple #[] := rfl
 have HQ := hide hQ
 clear hQ
 conv => arg 2; whnf
 by_cases hR : k = 3
 · have HV3 := hide (show VB = true by rw [hVB, decide_eq_true hR] <;> rfl)
   subst hR
   clear hVB
   go_wp2_with fail
   exact (unhide HQ) _ ⟨(by (repeat (with_reducible refine Fq.Kp.set ?_ (by decide) _)); with_reducible exact Fq.Kp.refl _ _), (Fq.set_at _ (by simp [hT]) _).trans (by rw [unhide HV3] <;> rfl)⟩
 · have HV3 := hide (show VB = false by rw [hVB, decide_eq_false hR] <;> rfl)
   have b0 : (k == 3) = false := by simpa using hR
   clear hVB
   go_wp2_with fail
   exact (unhide HQ) _ ⟨(by (repeat (with_reducible refine Fq.Kp.set ?_ (by decide) _)); with_reducible exact Fq.Kp.refl _ _), (Fq.set_at _ (by simp [hT]) _).trans (by rw [unhide HV3] <;> rfl)⟩
theorem cc_r35 {k : Int} {VB : Bool} (hT : T.size = 151) (s78 : T[78]? = some (.int .i64 k))  (hVB : VB = decide (k = 4))
  (hQ : ∀ T', (Fq.Kp 79 T T' ∧ T'[111]? = some (.bool VB)) → Q .normal ⟨T', []⟩ (w)) : (Fq.reg Tryz.f6 35).wp Tryz.prog Q ⟨T, []⟩ w := by
 have a78 := fun h => Fq.el s78 h
 have d78 := Fq.gd s78
 have hu : undef = Value.tuple #[] := rfl
 have HQ := hide hQ
 clear hQ
 conv => arg 2; whnf
 by_cases hR : k = 4
 · have HV3 := hide (show VB = true by rw [hVB, decide_eq_true hR] <;> rfl)
   subst hR
   clear hVB
   go_wp2_with fail
   exact (unhide HQ) _ ⟨(by (repeat (with_reducible refine Fq.Kp.set ?_ (by decide) _)); with_reducible exact Fq.Kp.refl _ _), (Fq.set_at _ (by simp [hT]) _).trans (by rw [unhide HV3] <;> rfl)⟩
 · have HV3 := hide (show VB = false by rw [hVB, decide_eq_false hR] <;> rfl)
   have b0 : (k == 4) = false := by simpa using hR
   clear hVB
   go_wp2_with fail
   exact (unhide HQ) _ ⟨(by (repeat (with_reducible refine Fq.Kp.set ?_ (by decide) _)); with_reducible exact Fq.Kp.refl _ _), (Fq.set_at _ (by simp [hT]) _).trans (by rw [unhide HV3] <;> rfl)⟩
theorem cc_r36 {k : Int} {VB : Bool} (hT : T.size = 151) (s78 : T[78]? = some (.int .i64 k))  (hVB : VB = decide (k = 6))
  (hQ : ∀ T', (Fq.Kp 79 T T' ∧ T'[111]? = some (.bool VB)) → Q .normal ⟨T', []⟩ (w)) : (Fq.reg Tryz.f6 36).wp Tryz.prog Q ⟨T, []⟩ w := by
 have a78 := fun h => Fq.el s78 h
 have d78 := Fq.gd s78
 have hu : undef = Value.tuple #[] := rfl
 have HQ := hide hQ
 clear hQ
 conv => arg 2; whnf
 by_cases hR : k = 6
 · have HV3 := hide (show VB = true by rw [hVB, decide_eq_true hR] <;> rfl)
   subst hR
   clear hVB
   go_wp2_with fail
   exact (unhide HQ) _ ⟨(by (repeat (with_reducible refine Fq.Kp.set ?_ (by decide) _)); with_reducible exact Fq.Kp.refl _ _), (Fq.set_at _ (by simp [hT]) _).trans (by rw [unhide HV3] <;> rfl)⟩
 · have HV3 := hide (show VB = false by rw [hVB, decide_eq_false hR] <;> rfl)
   have b0 : (k == 6) = false := by simpa using hR
   clear hVB
   go_wp2_with fail
   exact (unhide HQ) _ ⟨(by (repeat (with_reducible refine Fq.Kp.set ?_ (by decide) _)); with_reducible exact Fq.Kp.refl _ _), (Fq.set_at _ (by simp [hT]) _).trans (by rw [unhide HV3] <;> rfl)⟩
theorem cc_r37 {k : Int} {VB : Bool} (hT : T.size = 151) (s78 : T[78]? = some (.int .i64 k))  (hVB : VB = decide (k = 7))
  (hQ : ∀ T', (Fq.Kp 79 T T' ∧ T'[111]? = some (.bool VB)) → Q .normal ⟨T', []⟩ (w)) : (Fq.reg Tryz.f6 37).wp Tryz.prog Q ⟨T, []⟩ w := by
 have a78 := fun h => Fq.el s78 h
 have d78 := Fq.gd s78
 have hu : undef = Value.tuple #[] := rfl
 have HQ := hide hQ
 clear hQ
 conv => arg 2; whnf
 by_cases hR : k = 7
 · have HV3 := hide (show VB = true by rw [hVB, decide_eq_true hR] <;> rfl)
   subst hR
   clear hVB
   go_wp2_with fail
   exact (unhide HQ) _ ⟨(by (repeat (with_reducible refine Fq.Kp.set ?_ (by decide) _)); with_reducible exact Fq.Kp.refl _ _), (Fq.set_at _ (by simp [hT]) _).trans (by rw [unhide HV3] <;> rfl)⟩
 · have HV3 := hide (show VB = false by rw [hVB, decide_eq_false hR] <;> rfl)
   have b0 : (k == 7) = false := by simpa using hR
   clear hVB
   go_wp2_with fail
   exact (unhide HQ) _ ⟨(by (repeat (with_reducible refine Fq.Kp.set ?_ (by decide) _)); with_reducible exact Fq.Kp.refl _ _), (Fq.set_at _ (by simp [hT]) _).trans (by rw [unhide HV3] <;> rfl)⟩
theorem cc_r38 {k : Int} {VB : Bool} (hT : T.size = 151) (s78 : T[78]? = some (.int .i64 k))  (hVB : VB = decide (k = 8))
  (hQ : ∀ T', (Fq.Kp 79 T T' ∧ T'[111]? = some (.bool VB)) → Q .normal ⟨T', []⟩ (w)) : (Fq.reg Tryz.f6 38).wp Tryz.prog Q ⟨T, []⟩ w := by
 have a78 := fun h => Fq.el s78 h
 have d78 := Fq.gd s78
 have hu : undef = Value.tuple #[] := rfl
 have HQ := hide hQ
 clear hQ
 conv => arg 2; whnf
 by_cases hR : k = 8
 · have HV3 := hide (show VB = true by rw [hVB, decide_eq_true hR] <;> rfl)
   subst hR
   clear hVB
   go_wp2_with fail
   exact (unhide HQ) _ ⟨(by (repeat (with_reducible refine Fq.Kp.set ?_ (by decide) _)); with_reducible exact Fq.Kp.refl _ _), (Fq.set_at _ (by simp [hT]) _).trans (by rw [unhide HV3] <;> rfl)⟩
 · have HV3 := hide (show VB = false by rw [hVB, decide_eq_false hR] <;> rfl)
   have b0 : (k == 8) = false := by simpa using hR
   clear hVB
   go_wp2_with fail
   exact (unhide HQ) _ ⟨(by (repeat (with_reducible refine Fq.Kp.set ?_ (by decide) _)); with_reducible exact Fq.Kp.refl _ _), (Fq.set_at _ (by simp [hT]) _).trans (by rw [unhide HV3] <;> rfl)⟩
theorem cc_r39 {b7 : Nat} {a : Int} {VB : Bool} (hT : T.size = 151) (s7 : T[7]? = some (.pointer (some ⟨b7, 0, none⟩))) (g1 : w.cell? ⟨b7, 1, none⟩ = some (.int .i64 a)) (hVB : VB = decide (0 ≤ a))
  (hQ : ∀ T', (Fq.Kp 8 T T' ∧ T'[8]? = some (.bool VB)) → Q .normal ⟨T', []⟩ (w)) : (Fq.reg Tryz.f6 39).wp Tryz.prog Q ⟨T, []⟩ w := by
 have a7 := fun h => Fq.el s7 h
 have d7 := Fq.gd s7
 have hu : undef = Value.tuple #[] := rfl
 have HQ := hide hQ
 clear hQ
 conv => arg 2; whnf
 by_cases hR : 0 ≤ a
 · have HV3 := hide (show VB = true by rw [hVB, decide_eq_true hR] <;> rfl)
   skip
   clear hVB
   go_wp2_with fail
   exact (unhide HQ) _ ⟨(by (repeat (with_reducible refine Fq.Kp.set ?_ (by decide) _)); with_reducible exact Fq.Kp.refl _ _), (Fq.set_at _ (by simp [hT]) _).trans (by rw [unhide HV3] <;> rfl)⟩
 · have HV3 := hide (show VB = false by rw [hVB, decide_eq_false hR] <;> rfl)
   skip
   clear hVB
   go_wp2_with fail
   exact (unhide HQ) _ ⟨(by (repeat (with_reducible refine Fq.Kp.set ?_ (by decide) _)); with_reducible exact Fq.Kp.refl _ _), (Fq.set_at _ (by simp [hT]) _).trans (by rw [unhide HV3] <;> rfl)⟩
theorem cc_r40 {v : Bool} (hT : T.size = 151) (s8 : T[8]? = some (.bool v))
  (hQ : ∀ T', (Fq.Kp 9 T T' ∧ T'[122]? = some (.bool (!v))) → Q .normal ⟨T', []⟩ (w)) : (Fq.reg Tryz.f6 40).wp Tryz.prog Q ⟨T, []⟩ w := by
 have a8 := fun h => Fq.el s8 h
 have d8 := Fq.gd s8
 have hu : undef = Value.tuple #[] := rfl
 have HQ := hide hQ
 clear hQ
 conv => arg 2; whnf
 go_wp2_with fail
 exact (unhide HQ) _ ⟨(by (repeat (with_reducible refine Fq.Kp.set ?_ (by decide) _)); with_reducible exact Fq.Kp.refl _ _), Fq.set_at _ (by simp [hT]) _⟩
theorem cc_r42 {b7 : Nat} {k a bb : Int} {VB : Bool} (hT : T.size = 151) (s7 : T[7]? = some (.pointer (some ⟨b7, 0, none⟩))) (g0 : w.cell? ⟨b7, 0, none⟩ = some (.int .i64 k)) (g1 : w.cell? ⟨b7, 1, none⟩ = some (.int .i64 a)) (g2 : w.cell? ⟨b7, 2, none⟩ = some (.int .i64 bb)) (hVB : VB = !Kd.bare ⟨k, a, bb⟩)
  (hQ : ∀ T', (Fq.Kp 9 T T' ∧ T'[150]? = some (.bool VB)) → Q .normal ⟨T', []⟩ (w)) : (Fq.reg Tryz.f6 42).wp Tryz.prog Q ⟨T, []⟩ w := by
 have a7 := fun h => Fq.el s7 h
 have d7 := Fq.gd s7
 have hu : undef = Value.tuple #[] := rfl
 have HQ := hide hQ
 clear hQ
 conv => arg 2; whnf
 have HVB := hide (show VB = !((decide (a = 0) || !Kd.noA k) && (decide (bb = 0) || decide (k = 12))) from hVB)
 clear hVB
 rcases (show k = 9 ∨ k = 13 ∨ k = 14 ∨ (k ≠ 9 ∧ k ≠ 13 ∧ k ≠ 14) by omega) with rfl | rfl | rfl | ⟨k1, k2, k3⟩
 · by_cases ha : a = 0
   · subst ha
     by_cases hb : bb = 0
     · subst hb
       have HV3 := hide (show VB = false by rw [unhide HVB]; rfl)
       go_wp2_with fail
       exact (unhide HQ) _ ⟨(by (repeat (with_reducible refine Fq.Kp.set ?_ (by decide) _)); with_reducible exact Fq.Kp.refl _ _), (Fq.set_at _ (by simp [hT]) _).trans (by rw [unhide HV3] <;> rfl)⟩
     · have b2 : (bb != 0) = true := by simpa using hb
       have HV3 := hide (show VB = true by rw [unhide HVB, decide_eq_false hb]; rfl)
       clear hb
       go_wp2_with fail
       exact (unhide HQ) _ ⟨(by (repeat (with_reducible refine Fq.Kp.set ?_ (by decide) _)); with_reducible exact Fq.Kp.refl _ _), (Fq.set_at _ (by simp [hT]) _).trans (by rw [unhide HV3] <;> rfl)⟩
   · have b1 : (a != 0) = true := by simpa using ha
     have HV3 := hide (show VB = true by rw [unhide HVB, decide_eq_false ha]; rfl)
     clear ha
     go_wp2_with fail
     exact (unhide HQ) _ ⟨(by (repeat (with_reducible refine Fq.Kp.set ?_ (by decide) _)); with_reducible exact Fq.Kp.refl _ _), (Fq.set_at _ (by simp [hT]) _).trans (by rw [unhide HV3] <;> rfl)⟩
 · by_cases ha : a = 0
   · subst ha
     by_cases hb : bb = 0
     · subst hb
       have HV3 := hide (show VB = false by rw [unhide HVB]; rfl)
       go_wp2_with fail
       exact (unhide HQ) _ ⟨(by (repeat (with_reducible refine Fq.Kp.set ?_ (by decide) _)); with_reducible exact Fq.Kp.refl _ _), (Fq.set_at _ (by simp [hT]) _).trans (by rw [unhide HV3] <;> rfl)⟩
     · have b2 : (bb != 0) = true := by simpa using hb
       have HV3 := hide (show VB = true by rw [unhide HVB, decide_eq_false hb]; rfl)
       clear hb
       go_wp2_with fail
       exact (unhide HQ) _ ⟨(by (repeat (with_reducible refine Fq.Kp.set ?_ (by decide) _)); with_reducible exact Fq.Kp.refl _ _), (Fq.set_at _ (by simp [hT]) _).trans (by rw [unhide HV3] <;> rfl)⟩
   · have b1 : (a != 0) = true := by simpa using ha
     have HV3 := hide (show VB = true by rw [unhide HVB, decide_eq_false ha]; rfl)
     clear ha
     go_wp2_with fail
     exact (unhide HQ) _ ⟨(by (repeat (with_reducible refine Fq.Kp.set ?_ (by decide) _)); with_reducible exact Fq.Kp.refl _ _), (Fq.set_at _ (by simp [hT]) _).trans (by rw [unhide HV3] <;> rfl)⟩
 · by_cases ha : a = 0
   · subst ha
     by_cases hb : bb = 0
     · subst hb
       have HV3 := hide (show VB = false by rw [unhide HVB]; rfl)
       go_wp2_with fail
       exact (unhide HQ) _ ⟨(by (repeat (with_reducible refine Fq.Kp.set ?_ (by decide) _)); with_reducible exact Fq.Kp.refl _ _), (Fq.set_at _ (by simp [hT]) _).trans (by rw [unhide HV3] <;> rfl)⟩
     · have b2 : (bb != 0) = true := by simpa using hb
       have HV3 := hide (show VB = true by rw [unhide HVB, decide_eq_false hb]; rfl)
       clear hb
       go_wp2_with fail
       exact (unhide HQ) _ ⟨(by (repeat (with_reducible refine Fq.Kp.set ?_ (by decide) _)); with_reducible exact Fq.Kp.refl _ _), (Fq.set_at _ (by simp [hT]) _).trans (by rw [unhide HV3] <;> rfl)⟩
   · have b1 : (a != 0) = true := by simpa using ha
     have HV3 := hide (show VB = true by rw [unhide HVB, decide_eq_false ha]; rfl)
     clear ha
     go_wp2_with fail
     exact (unhide HQ) _ ⟨(by (repeat (with_reducible refine Fq.Kp.set ?_ (by decide) _)); with_reducible exact Fq.Kp.refl _ _), (Fq.set_at _ (by simp [hT]) _).trans (by rw [unhide HV3] <;> rfl)⟩
 · have c1 : (k == 9) = false := by simpa using k1
   have c2 : (k == 13) = false := by simpa using k2
   have c3 : (k == 14) = false := by simpa using k3
   have HN := hide (show Kd.noA k = false from decide_eq_false (by omega))
   clear k1 k2 k3
   by_cases h12 : k = 12
   · subst h12
     have HV3 := hide (show VB = false by rw [unhide HVB, unhide HN]; simp)
     go_wp2_with fail
     exact (unhide HQ) _ ⟨(by (repeat (with_reducible refine Fq.Kp.set ?_ (by decide) _)); with_reducible exact Fq.Kp.refl _ _), (Fq.set_at _ (by simp [hT]) _).trans (by rw [unhide HV3] <;> rfl)⟩
   · have b12 : (k != 12) = true := by simpa using h12
     have HK := hide (decide_eq_false h12)
     clear h12
     by_cases hb : bb = 0
     · subst hb
       have HV3 := hide (show VB = false by rw [unhide HVB, unhide HN]; simp)
       go_wp2_with fail
       exact (unhide HQ) _ ⟨(by (repeat (with_reducible refine Fq.Kp.set ?_ (by decide) _)); with_reducible exact Fq.Kp.refl _ _), (Fq.set_at _ (by simp [hT]) _).trans (by rw [unhide HV3] <;> rfl)⟩
     · have b2 : (bb != 0) = true := by simpa using hb
       have HV3 := hide (show VB = true by rw [unhide HVB, unhide HN, unhide HK, decide_eq_false hb]; simp)
       clear hb
       go_wp2_with fail
       exact (unhide HQ) _ ⟨(by (repeat (with_reducible refine Fq.Kp.set ?_ (by decide) _)); with_reducible exact Fq.Kp.refl _ _), (Fq.set_at _ (by simp [hT]) _).trans (by rw [unhide HV3] <;> rfl)⟩
end
end Go.Proofs.YtpfogjplnodacaaGreat
