/-
  SR4, SR5. By the verifier.
-/
import Derived.Test.YtfccpddehpgfoaaGreatDoorXO
import Derived.Test.YtfccpddehpgfoaaGreatDoorUH
import Derived.Test.YtfccpddehpgfoaaGreatDoorYC
import Derived.Deep.RegionHeld3
set_option maxRecDepth 100000
set_option maxHeartbeats 3200000
namespace Go.Proofs.YtfccpddehpgfoaaGreatDoor
open Go.RowKit
set_option linter.unusedVariables false
section
variable {T : Array Value} {w : World} {Q : Exit → Act → World → Prop} {q : Tk.C} {s : Tk.Sl} {bx i : Nat}
theorem cx_r0 (hT : T.size = 162)
  (hQ : ∀ T', (Fq.Kp 4 T T' ∧ T'[4]? = some (.string ⟨#[]⟩)) → Q .normal ⟨T', []⟩ (w)) : (Fq.reg Tryz.f42 0).wp Tryz.prog Q ⟨T, []⟩ w := by
 have hu : undef = Value.tuple #[] := rfl
 have HQ := hide hQ
 clear hQ
 conv => arg 2; whnf
 go_wp2_with fail
 exact (unhide HQ) _ ⟨(by (repeat (with_reducible refine Fq.Kp.set ?_ (by decide) _)); with_reducible exact Fq.Kp.refl _ _), Fq.set_at _ (by simp [hT]) _⟩
theorem cx_r1 (hT : T.size = 162)
  (hQ : ∀ T', (Fq.Kp 5 T T' ∧ T'[5]? = some (.string ⟨#[]⟩)) → Q .normal ⟨T', []⟩ (w)) : (Fq.reg Tryz.f42 1).wp Tryz.prog Q ⟨T, []⟩ w := by
 have hu : undef = Value.tuple #[] := rfl
 have HQ := hide hQ
 clear hQ
 conv => arg 2; whnf
 go_wp2_with fail
 exact (unhide HQ) _ ⟨(by (repeat (with_reducible refine Fq.Kp.set ?_ (by decide) _)); with_reducible exact Fq.Kp.refl _ _), Fq.set_at _ (by simp [hT]) _⟩
theorem cx_r2 (hT : T.size = 162)
  (hQ : ∀ T', (Fq.Kp 6 T T' ∧ T'[6]? = some (.int .i64 0)) → Q .normal ⟨T', []⟩ (w)) : (Fq.reg Tryz.f42 2).wp Tryz.prog Q ⟨T, []⟩ w := by
 have hu : undef = Value.tuple #[] := rfl
 have HQ := hide hQ
 clear hQ
 conv => arg 2; whnf
 go_wp2_with fail
 exact (unhide HQ) _ ⟨(by (repeat (with_reducible refine Fq.Kp.set ?_ (by decide) _)); with_reducible exact Fq.Kp.refl _ _), Fq.set_at _ (by simp [hT]) _⟩
theorem cx_r3 {VB : Bool} (hT : T.size = 162) (s0 : T[0]? = some (.slice s.ad s.len s.cap)) (s6 : T[6]? = some (.int .i64 (i : Nat))) (htl : s.len ≤ 35184372088832) (hVB : decide ((i : Int) < (s.len : Int)) = VB)
  (hQ : ∀ T', (Fq.Kp 11 T T' ∧ T'[14]? = some (.bool VB)) → Q .normal ⟨T', []⟩ (w)) : (Fq.reg Tryz.f42 3).wp Tryz.prog Q ⟨T, []⟩ w := by
 have a0 := fun h => Fq.el s0 h
 have d0 := Fq.gd s0
 have a6 := fun h => Fq.el s6 h
 have d6 := Fq.gd s6
 have hu : undef = Value.tuple #[] := rfl
 have HQ := hide hQ
 clear hQ
 conv => arg 2; whnf
 cases VB
 · have hlt : ¬ (i : Int) < (s.len : Int) := of_decide_eq_false hVB
   clear hVB
   go_wp2_with fail
   exact (unhide HQ) _ ⟨(by (repeat (with_reducible refine Fq.Kp.set ?_ (by decide) _)); with_reducible exact Fq.Kp.refl _ _), Fq.set_at _ (by simp [hT]) _⟩
 · have hlt : (i : Int) < (s.len : Int) := of_decide_eq_true hVB
   clear hVB
   go_wp2_with fail
   exact (unhide HQ) _ ⟨(by (repeat (with_reducible refine Fq.Kp.set ?_ (by decide) _)); with_reducible exact Fq.Kp.refl _ _), Fq.set_at _ (by simp [hT]) _⟩
theorem cx_r4 (hT : T.size = 162) (s6 : T[6]? = some (.int .i64 (i : Nat))) (htl : i < 35184372088832)
  (hQ : ∀ T', (Fq.Kp 6 T T' ∧ T'[6]? = some (.int .i64 ((i + 1 : Nat) : Int))) → Q .normal ⟨T', []⟩ (w)) : (Fq.reg Tryz.f42 4).wp Tryz.prog Q ⟨T, []⟩ w := by
 have a6 := fun h => Fq.el s6 h
 have d6 := Fq.gd s6
 have hu : undef = Value.tuple #[] := rfl
 have HQ := hide hQ
 clear hQ
 conv => arg 2; whnf
 have hc : ((i + 1 : Nat) : Int) = (i : Int) + 1 := by omega
 have hw0 : IntKind.i64.wrap ((i : Int) + 1) = (i : Int) + 1 := by rw [IntKind.wrap_i64]; omega
 rw [hc] at HQ
 go_wp2_with fail
 exact (unhide HQ) _ ⟨(by (repeat (with_reducible refine Fq.Kp.set ?_ (by decide) _)); with_reducible exact Fq.Kp.refl _ _), Fq.set_at _ (by simp [hT]) _⟩
theorem cx_r6 (hT : T.size = 162)
  (hQ : ∀ T', (Fq.Kp 8 T T' ∧ T'[8]? = some (.string ⟨#[]⟩)) → Q .normal ⟨T', []⟩ (w)) : (Fq.reg Tryz.f42 6).wp Tryz.prog Q ⟨T, []⟩ w := by
 have hu : undef = Value.tuple #[] := rfl
 have HQ := hide hQ
 clear hQ
 conv => arg 2; whnf
 go_wp2_with fail
 exact (unhide HQ) _ ⟨(by (repeat (with_reducible refine Fq.Kp.set ?_ (by decide) _)); with_reducible exact Fq.Kp.refl _ _), Fq.set_at _ (by simp [hT]) _⟩
theorem cx_r7 {bb : Bool} (hT : T.size = 162) (s7 : T[7]? = some (.pointer (some ⟨bx, 0, none⟩))) (x9 : w.cell? ⟨bx, 9, none⟩ = some (.int .i64 q.ex.k)) (x10 : w.cell? ⟨bx, 10, none⟩ = some (.int .i64 q.ex.a)) (x11 : w.cell? ⟨bx, 11, none⟩ = some (.int .i64 q.ex.n)) (x12 : w.cell? ⟨bx, 12, none⟩ = some (.string q.ex.nm)) (x13 : w.cell? ⟨bx, 13, none⟩ = some (.slice q.ex.args.ad q.ex.args.len q.ex.args.cap)) (hc : Calls Tryz.prog 29 #[.agg #[.int .i64 q.ex.k, .int .i64 q.ex.a, .int .i64 q.ex.n, .string q.ex.nm, .slice q.ex.args.ad q.ex.args.len q.ex.args.cap]] w fun r w' => r = .returned (.bool bb) ∧ Below w.heap.size w w')
  (hQ : ∀ T' w', (Fq.Kp 11 T T' ∧ T'[24]? = some (.bool (!bb)) ∧ Below w.heap.size w w') → Q .normal ⟨T', []⟩ w') : (Fq.reg Tryz.f42 7).wp Tryz.prog Q ⟨T, []⟩ w := by
 have a7 := fun h => Fq.el s7 h
 have d7 := Fq.gd s7
 have hu : undef = Value.tuple #[] := rfl
 have HQ := hide hQ
 clear hQ
 conv => arg 2; whnf
 have HC := hide hc
 clear hc
 go_wp2_with (with_reducible refine (Calls.mono (unhide HC) ?_); rintro r w2 ⟨rfl, hb2⟩; have HB := hide hb2; clear hb2)
 exact (unhide HQ) _ _ ⟨(by (repeat (with_reducible refine Fq.Kp.set ?_ (by decide) _)); with_reducible exact Fq.Kp.refl _ _), Fq.set_at _ (by simp [hT]) _, unhide HB⟩
theorem cx_r8 {e : ByteArray} (hT : T.size = 162) (s7 : T[7]? = some (.pointer (some ⟨bx, 0, none⟩))) (x9 : w.cell? ⟨bx, 9, none⟩ = some (.int .i64 q.ex.k)) (x10 : w.cell? ⟨bx, 10, none⟩ = some (.int .i64 q.ex.a)) (x11 : w.cell? ⟨bx, 11, none⟩ = some (.int .i64 q.ex.n)) (x12 : w.cell? ⟨bx, 12, none⟩ = some (.string q.ex.nm)) (x13 : w.cell? ⟨bx, 13, none⟩ = some (.slice q.ex.args.ad q.ex.args.len q.ex.args.cap)) (hc : Calls Tryz.prog 43 #[.agg #[.int .i64 q.ex.k, .int .i64 q.ex.a, .int .i64 q.ex.n, .string q.ex.nm, .slice q.ex.args.ad q.ex.args.len q.ex.args.cap]] w fun r w' => r = .returned (.string e) ∧ Below w.heap.size w w')
  (hQ : ∀ T' w', (Fq.Kp 8 T T' ∧ T'[8]? = some (.string e) ∧ Below w.heap.size w w') → Q .normal ⟨T', []⟩ w') : (Fq.reg Tryz.f42 8).wp Tryz.prog Q ⟨T, []⟩ w := by
 have a7 := fun h => Fq.el s7 h
 have d7 := Fq.gd s7
 have hu : undef = Value.tuple #[] := rfl
 have HQ := hide hQ
 clear hQ
 conv => arg 2; whnf
 have HC := hide hc
 clear hc
 go_wp2_with (with_reducible refine (Calls.mono (unhide HC) ?_); rintro r w2 ⟨rfl, hb2⟩; have HB := hide hb2; clear hb2)
 exact (unhide HQ) _ _ ⟨(by (repeat (with_reducible refine Fq.Kp.set ?_ (by decide) _)); with_reducible exact Fq.Kp.refl _ _), Fq.set_at _ (by simp [hT]) _, unhide HB⟩
theorem cx_r9 (hT : T.size = 162) (s7 : T[7]? = some (.pointer (some ⟨bx, 0, none⟩))) (x0 : w.cell? ⟨bx, 0, none⟩ = some (.int .i64 q.k))
  (hQ : ∀ T', (Fq.Kp 11 T T' ∧ T'[29]? = some (.int .i64 q.k)) → Q .normal ⟨T', []⟩ (w)) : (Fq.reg Tryz.f42 9).wp Tryz.prog Q ⟨T, []⟩ w := by
 have a7 := fun h => Fq.el s7 h
 have d7 := Fq.gd s7
 have hu : undef = Value.tuple #[] := rfl
 have HQ := hide hQ
 clear hQ
 conv => arg 2; whnf
 go_wp2_with fail
 exact (unhide HQ) _ ⟨(by (repeat (with_reducible refine Fq.Kp.set ?_ (by decide) _)); with_reducible exact Fq.Kp.refl _ _), Fq.set_at _ (by simp [hT]) _⟩
theorem cx_r10 {VB : Bool} (hT : T.size = 162) (s29 : T[29]? = some (.int .i64 q.k)) (hVB : VB = (q.k == 1))
  (hQ : ∀ T', (Fq.Kp 11 T T' ∧ T'[30]? = some (.bool VB) ∧ T'[29]? = some (.int .i64 q.k)) → Q .normal ⟨T', []⟩ (w)) : (Fq.reg Tryz.f42 10).wp Tryz.prog Q ⟨T, []⟩ w := by
 have a29 := fun h => Fq.el s29 h
 have d29 := Fq.gd s29
 have hu : undef = Value.tuple #[] := rfl
 have HQ := hide hQ
 clear hQ
 conv => arg 2; whnf
 cases hR : (q.k == 1)
 · rw [hR] at hVB
   subst hVB
   go_wp2_with fail
   exact (unhide HQ) _ ⟨(by (repeat (with_reducible refine Fq.Kp.set ?_ (by decide) _)); with_reducible exact Fq.Kp.refl _ _), Fq.set_at _ (by simp [hT]) _, (by (repeat (with_reducible refine (Fq.set_ne _ (by decide) _).trans ?_)); exact s29)⟩
 · rw [hR] at hVB
   subst hVB
   go_wp2_with fail
   exact (unhide HQ) _ ⟨(by (repeat (with_reducible refine Fq.Kp.set ?_ (by decide) _)); with_reducible exact Fq.Kp.refl _ _), Fq.set_at _ (by simp [hT]) _, (by (repeat (with_reducible refine (Fq.set_ne _ (by decide) _).trans ?_)); exact s29)⟩
theorem cx_r12 {VB : Bool} (hT : T.size = 162) (s29 : T[29]? = some (.int .i64 q.k)) (hVB : VB = (q.k == 2))
  (hQ : ∀ T', (Fq.Kp 11 T T' ∧ T'[42]? = some (.bool VB) ∧ T'[29]? = some (.int .i64 q.k)) → Q .normal ⟨T', []⟩ (w)) : (Fq.reg Tryz.f42 12).wp Tryz.prog Q ⟨T, []⟩ w := by
 have a29 := fun h => Fq.el s29 h
 have d29 := Fq.gd s29
 have hu : undef = Value.tuple #[] := rfl
 have HQ := hide hQ
 clear hQ
 conv => arg 2; whnf
 cases hR : (q.k == 2)
 · rw [hR] at hVB
   subst hVB
   go_wp2_with fail
   exact (unhide HQ) _ ⟨(by (repeat (with_reducible refine Fq.Kp.set ?_ (by decide) _)); with_reducible exact Fq.Kp.refl _ _), Fq.set_at _ (by simp [hT]) _, (by (repeat (with_reducible refine (Fq.set_ne _ (by decide) _).trans ?_)); exact s29)⟩
 · rw [hR] at hVB
   subst hVB
   go_wp2_with fail
   exact (unhide HQ) _ ⟨(by (repeat (with_reducible refine Fq.Kp.set ?_ (by decide) _)); with_reducible exact Fq.Kp.refl _ _), Fq.set_at _ (by simp [hT]) _, (by (repeat (with_reducible refine (Fq.set_ne _ (by decide) _).trans ?_)); exact s29)⟩
theorem cx_r14 {VB : Bool} (hT : T.size = 162) (s29 : T[29]? = some (.int .i64 q.k)) (hVB : VB = (q.k == 3))
  (hQ : ∀ T', (Fq.Kp 11 T T' ∧ T'[59]? = some (.bool VB) ∧ T'[29]? = some (.int .i64 q.k)) → Q .normal ⟨T', []⟩ (w)) : (Fq.reg Tryz.f42 14).wp Tryz.prog Q ⟨T, []⟩ w := by
 have a29 := fun h => Fq.el s29 h
 have d29 := Fq.gd s29
 have hu : undef = Value.tuple #[] := rfl
 have HQ := hide hQ
 clear hQ
 conv => arg 2; whnf
 cases hR : (q.k == 3)
 · rw [hR] at hVB
   subst hVB
   go_wp2_with fail
   exact (unhide HQ) _ ⟨(by (repeat (with_reducible refine Fq.Kp.set ?_ (by decide) _)); with_reducible exact Fq.Kp.refl _ _), Fq.set_at _ (by simp [hT]) _, (by (repeat (with_reducible refine (Fq.set_ne _ (by decide) _).trans ?_)); exact s29)⟩
 · rw [hR] at hVB
   subst hVB
   go_wp2_with fail
   exact (unhide HQ) _ ⟨(by (repeat (with_reducible refine Fq.Kp.set ?_ (by decide) _)); with_reducible exact Fq.Kp.refl _ _), Fq.set_at _ (by simp [hT]) _, (by (repeat (with_reducible refine (Fq.set_ne _ (by decide) _).trans ?_)); exact s29)⟩
theorem cx_r21 {VB : Bool} (hT : T.size = 162) (s29 : T[29]? = some (.int .i64 q.k)) (hVB : VB = (q.k == 4))
  (hQ : ∀ T', (Fq.Kp 11 T T' ∧ T'[92]? = some (.bool VB) ∧ T'[29]? = some (.int .i64 q.k)) → Q .normal ⟨T', []⟩ (w)) : (Fq.reg Tryz.f42 21).wp Tryz.prog Q ⟨T, []⟩ w := by
 have a29 := fun h => Fq.el s29 h
 have d29 := Fq.gd s29
 have hu : undef = Value.tuple #[] := rfl
 have HQ := hide hQ
 clear hQ
 conv => arg 2; whnf
 cases hR : (q.k == 4)
 · rw [hR] at hVB
   subst hVB
   go_wp2_with fail
   exact (unhide HQ) _ ⟨(by (repeat (with_reducible refine Fq.Kp.set ?_ (by decide) _)); with_reducible exact Fq.Kp.refl _ _), Fq.set_at _ (by simp [hT]) _, (by (repeat (with_reducible refine (Fq.set_ne _ (by decide) _).trans ?_)); exact s29)⟩
 · rw [hR] at hVB
   subst hVB
   go_wp2_with fail
   exact (unhide HQ) _ ⟨(by (repeat (with_reducible refine Fq.Kp.set ?_ (by decide) _)); with_reducible exact Fq.Kp.refl _ _), Fq.set_at _ (by simp [hT]) _, (by (repeat (with_reducible refine (Fq.set_ne _ (by decide) _).trans ?_)); exact s29)⟩
theorem cx_r23 {VB : Bool} (hT : T.size = 162) (s29 : T[29]? = some (.int .i64 q.k)) (hVB : VB = (q.k == 5))
  (hQ : ∀ T', (Fq.Kp 11 T T' ∧ T'[101]? = some (.bool VB) ∧ T'[29]? = some (.int .i64 q.k)) → Q .normal ⟨T', []⟩ (w)) : (Fq.reg Tryz.f42 23).wp Tryz.prog Q ⟨T, []⟩ w := by
 have a29 := fun h => Fq.el s29 h
 have d29 := Fq.gd s29
 have hu : undef = Value.tuple #[] := rfl
 have HQ := hide hQ
 clear hQ
 conv => arg 2; whnf
 cases hR : (q.k == 5)
 · rw [hR] at hVB
   subst hVB
   go_wp2_with fail
   exact (unhide HQ) _ ⟨(by (repeat (with_reducible refine Fq.Kp.set ?_ (by decide) _)); with_reducible exact Fq.Kp.refl _ _), Fq.set_at _ (by simp [hT]) _, (by (repeat (with_reducible refine (Fq.set_ne _ (by decide) _).trans ?_)); exact s29)⟩
 · rw [hR] at hVB
   subst hVB
   go_wp2_with fail
   exact (unhide HQ) _ ⟨(by (repeat (with_reducible refine Fq.Kp.set ?_ (by decide) _)); with_reducible exact Fq.Kp.refl _ _), Fq.set_at _ (by simp [hT]) _, (by (repeat (with_reducible refine (Fq.set_ne _ (by decide) _).trans ?_)); exact s29)⟩
theorem cx_r25 {VB : Bool} (hT : T.size = 162) (s29 : T[29]? = some (.int .i64 q.k)) (hVB : VB = (q.k == 6))
  (hQ : ∀ T', (Fq.Kp 11 T T' ∧ T'[110]? = some (.bool VB) ∧ T'[29]? = some (.int .i64 q.k)) → Q .normal ⟨T', []⟩ (w)) : (Fq.reg Tryz.f42 25).wp Tryz.prog Q ⟨T, []⟩ w := by
 have a29 := fun h => Fq.el s29 h
 have d29 := Fq.gd s29
 have hu : undef = Value.tuple #[] := rfl
 have HQ := hide hQ
 clear hQ
 conv => arg 2; whnf
 cases hR : (q.k == 6)
 · rw [hR] at hVB
   subst hVB
   go_wp2_with fail
   exact (unhide HQ) _ ⟨(by (repeat (with_reducible refine Fq.Kp.set ?_ (by decide) _)); with_reducible exact Fq.Kp.refl _ _), Fq.set_at _ (by simp [hT]) _, (by (repeat (with_reducible refine (Fq.set_ne _ (by decide) _).trans ?_)); exact s29)⟩
 · rw [hR] at hVB
   subst hVB
   go_wp2_with fail
   exact (unhide HQ) _ ⟨(by (repeat (with_reducible refine Fq.Kp.set ?_ (by decide) _)); with_reducible exact Fq.Kp.refl _ _), Fq.set_at _ (by simp [hT]) _, (by (repeat (with_reducible refine (Fq.set_ne _ (by decide) _).trans ?_)); exact s29)⟩
theorem cx_r30 {VB : Bool} (hT : T.size = 162) (s29 : T[29]? = some (.int .i64 q.k)) (hVB : VB = (q.k == 7))
  (hQ : ∀ T', (Fq.Kp 11 T T' ∧ T'[143]? = some (.bool VB) ∧ T'[29]? = some (.int .i64 q.k)) → Q .normal ⟨T', []⟩ (w)) : (Fq.reg Tryz.f42 30).wp Tryz.prog Q ⟨T, []⟩ w := by
 have a29 := fun h => Fq.el s29 h
 have d29 := Fq.gd s29
 have hu : undef = Value.tuple #[] := rfl
 have HQ := hide hQ
 clear hQ
 conv => arg 2; whnf
 cases hR : (q.k == 7)
 · rw [hR] at hVB
   subst hVB
   go_wp2_with fail
   exact (unhide HQ) _ ⟨(by (repeat (with_reducible refine Fq.Kp.set ?_ (by decide) _)); with_reducible exact Fq.Kp.refl _ _), Fq.set_at _ (by simp [hT]) _, (by (repeat (with_reducible refine (Fq.set_ne _ (by decide) _).trans ?_)); exact s29)⟩
 · rw [hR] at hVB
   subst hVB
   go_wp2_with fail
   exact (unhide HQ) _ ⟨(by (repeat (with_reducible refine Fq.Kp.set ?_ (by decide) _)); with_reducible exact Fq.Kp.refl _ _), Fq.set_at _ (by simp [hT]) _, (by (repeat (with_reducible refine (Fq.set_ne _ (by decide) _).trans ?_)); exact s29)⟩
theorem cx_r11 {inn out e : ByteArray} (hT : T.size = 162) (s1 : T[1]? = some (.string inn)) (s5 : T[5]? = some (.string out)) (s6 : T[6]? = some (.int .i64 (i : Nat))) (s7 : T[7]? = some (.pointer (some ⟨bx, 0, none⟩))) (s8 : T[8]? = some (.string e)) (x2 : w.cell? ⟨bx, 2, none⟩ = some (.string q.nm)) (hz : out.size + (inn.size + q.nm.size + 3 + e.size + 2) ≤ 140737488355328)
  (hQ : ∀ T', (Fq.Kp 5 T T' ∧ T'[5]? = some (.string (out ++ ((((inn ++ q.nm) ++ ⟨#[32, 61, 32]⟩) ++ e) ++ ⟨#[59, 10]⟩))) ∧ T'[6]? = some (.int .i64 (i : Nat)) ∧ T'[7]? = some (.pointer (some ⟨bx, 0, none⟩)) ∧ T'[8]? = some (.string e)) → Q .normal ⟨T', []⟩ (w)) : (Fq.reg Tryz.f42 11).wp Tryz.prog Q ⟨T, []⟩ w := by
 have a1 := fun h => Fq.el s1 h
 have d1 := Fq.gd s1
 have a5 := fun h => Fq.el s5 h
 have d5 := Fq.gd s5
 have a6 := fun h => Fq.el s6 h
 have d6 := Fq.gd s6
 have a7 := fun h => Fq.el s7 h
 have d7 := Fq.gd s7
 have a8 := fun h => Fq.el s8 h
 have d8 := Fq.gd s8
 have hu : undef = Value.tuple #[] := rfl
 have HQ := hide hQ
 clear hQ
 conv => arg 2; whnf
 have z0 : (⟨#[32, 61, 32]⟩ : ByteArray).size = 3 := rfl
 have z1 : (⟨#[59, 10]⟩ : ByteArray).size = 2 := rfl
 have f0 : ∀ W : World, (Op.stringOp .add inn q.nm).run Tryz.prog W = .ok (.string (inn ++ q.nm)) W := fun W => run_string_add_sum W _ _ (by omega)
 have f1 : ∀ W : World, (Op.stringOp .add (inn ++ q.nm) ⟨#[32, 61, 32]⟩).run Tryz.prog W = .ok (.string ((inn ++ q.nm) ++ ⟨#[32, 61, 32]⟩)) W := fun W => run_string_add_sum W _ _ (by simp only [ByteArray.size_append, z0]; omega)
 have f2 : ∀ W : World, (Op.stringOp .add ((inn ++ q.nm) ++ ⟨#[32, 61, 32]⟩) e).run Tryz.prog W = .ok (.string (((inn ++ q.nm) ++ ⟨#[32, 61, 32]⟩) ++ e)) W := fun W => run_string_add_sum W _ _ (by simp only [ByteArray.size_append, z0]; omega)
 have f3 : ∀ W : World, (Op.stringOp .add (((inn ++ q.nm) ++ ⟨#[32, 61, 32]⟩) ++ e) ⟨#[59, 10]⟩).run Tryz.prog W = .ok (.string ((((inn ++ q.nm) ++ ⟨#[32, 61, 32]⟩) ++ e) ++ ⟨#[59, 10]⟩)) W := fun W => run_string_add_sum W _ _ (by simp only [ByteArray.size_append, z0, z1]; omega)
 have f4 : ∀ W : World, (Op.stringOp .add out ((((inn ++ q.nm) ++ ⟨#[32, 61, 32]⟩) ++ e) ++ ⟨#[59, 10]⟩)).run Tryz.prog W = .ok (.string (out ++ ((((inn ++ q.nm) ++ ⟨#[32, 61, 32]⟩) ++ e) ++ ⟨#[59, 10]⟩))) W := fun W => run_string_add_sum W _ _ (by simp only [ByteArray.size_append, z0, z1]; omega)
 clear hz z0 z1
 go_wp2_with fail
 exact (unhide HQ) _ ⟨(by (repeat (with_reducible refine Fq.Kp.set ?_ (by decide) _)); with_reducible exact Fq.Kp.refl _ _), Fq.set_at _ (by simp [hT]) _, (by (repeat (with_reducible refine (Fq.set_ne _ (by decide) _).trans ?_)); exact s6), (by (repeat (with_reducible refine (Fq.set_ne _ (by decide) _).trans ?_)); exact s7), (by (repeat (with_reducible refine (Fq.set_ne _ (by decide) _).trans ?_)); exact s8)⟩
theorem cx_r22 {inn out e : ByteArray} (hT : T.size = 162) (s1 : T[1]? = some (.string inn)) (s5 : T[5]? = some (.string out)) (s6 : T[6]? = some (.int .i64 (i : Nat))) (s7 : T[7]? = some (.pointer (some ⟨bx, 0, none⟩))) (s8 : T[8]? = some (.string e)) (x2 : w.cell? ⟨bx, 2, none⟩ = some (.string q.nm)) (hz : out.size + (inn.size + q.nm.size + 9) ≤ 140737488355328)
  (hQ : ∀ T', (Fq.Kp 5 T T' ∧ T'[5]? = some (.string (out ++ ((inn ++ q.nm) ++ ⟨#[32, 61, 32, 114, 101, 97, 100, 59, 10]⟩))) ∧ T'[6]? = some (.int .i64 (i : Nat)) ∧ T'[7]? = some (.pointer (some ⟨bx, 0, none⟩)) ∧ T'[8]? = some (.string e)) → Q .normal ⟨T', []⟩ (w)) : (Fq.reg Tryz.f42 22).wp Tryz.prog Q ⟨T, []⟩ w := by
 have a1 := fun h => Fq.el s1 h
 have d1 := Fq.gd s1
 have a5 := fun h => Fq.el s5 h
 have d5 := Fq.gd s5
 have a6 := fun h => Fq.el s6 h
 have d6 := Fq.gd s6
 have a7 := fun h => Fq.el s7 h
 have d7 := Fq.gd s7
 have a8 := fun h => Fq.el s8 h
 have d8 := Fq.gd s8
 have hu : undef = Value.tuple #[] := rfl
 have HQ := hide hQ
 clear hQ
 conv => arg 2; whnf
 have z0 : (⟨#[32, 61, 32, 114, 101, 97, 100, 59, 10]⟩ : ByteArray).size = 9 := rfl
 have f0 : ∀ W : World, (Op.stringOp .add inn q.nm).run Tryz.prog W = .ok (.string (inn ++ q.nm)) W := fun W => run_string_add_sum W _ _ (by omega)
 have f1 : ∀ W : World, (Op.stringOp .add (inn ++ q.nm) ⟨#[32, 61, 32, 114, 101, 97, 100, 59, 10]⟩).run Tryz.prog W = .ok (.string ((inn ++ q.nm) ++ ⟨#[32, 61, 32, 114, 101, 97, 100, 59, 10]⟩)) W := fun W => run_string_add_sum W _ _ (by simp only [ByteArray.size_append, z0]; omega)
 have f2 : ∀ W : World, (Op.stringOp .add out ((inn ++ q.nm) ++ ⟨#[32, 61, 32, 114, 101, 97, 100, 59, 10]⟩)).run Tryz.prog W = .ok (.string (out ++ ((inn ++ q.nm) ++ ⟨#[32, 61, 32, 114, 101, 97, 100, 59, 10]⟩))) W := fun W => run_string_add_sum W _ _ (by simp only [ByteArray.size_append, z0]; omega)
 clear hz z0
 go_wp2_with fail
 exact (unhide HQ) _ ⟨(by (repeat (with_reducible refine Fq.Kp.set ?_ (by decide) _)); with_reducible exact Fq.Kp.refl _ _), Fq.set_at _ (by simp [hT]) _, (by (repeat (with_reducible refine (Fq.set_ne _ (by decide) _).trans ?_)); exact s6), (by (repeat (with_reducible refine (Fq.set_ne _ (by decide) _).trans ?_)); exact s7), (by (repeat (with_reducible refine (Fq.set_ne _ (by decide) _).trans ?_)); exact s8)⟩
theorem cx_r24 {inn out e : ByteArray} (hT : T.size = 162) (s1 : T[1]? = some (.string inn)) (s5 : T[5]? = some (.string out)) (s6 : T[6]? = some (.int .i64 (i : Nat))) (s7 : T[7]? = some (.pointer (some ⟨bx, 0, none⟩))) (s8 : T[8]? = some (.string e))  (hz : out.size + (inn.size + 6 + e.size + 2) ≤ 140737488355328)
  (hQ : ∀ T', (Fq.Kp 5 T T' ∧ T'[5]? = some (.string (out ++ (((inn ++ ⟨#[112, 114, 105, 110, 116, 32]⟩) ++ e) ++ ⟨#[59, 10]⟩))) ∧ T'[6]? = some (.int .i64 (i : Nat)) ∧ T'[7]? = some (.pointer (some ⟨bx, 0, none⟩)) ∧ T'[8]? = some (.string e)) → Q .normal ⟨T', []⟩ (w)) : (Fq.reg Tryz.f42 24).wp Tryz.prog Q ⟨T, []⟩ w := by
 have a1 := fun h => Fq.el s1 h
 have d1 := Fq.gd s1
 have a5 := fun h => Fq.el s5 h
 have d5 := Fq.gd s5
 have a6 := fun h => Fq.el s6 h
 have d6 := Fq.gd s6
 have a7 := fun h => Fq.el s7 h
 have d7 := Fq.gd s7
 have a8 := fun h => Fq.el s8 h
 have d8 := Fq.gd s8
 have hu : undef = Value.tuple #[] := rfl
 have HQ := hide hQ
 clear hQ
 conv => arg 2; whnf
 have z0 : (⟨#[112, 114, 105, 110, 116, 32]⟩ : ByteArray).size = 6 := rfl
 have z1 : (⟨#[59, 10]⟩ : ByteArray).size = 2 := rfl
 have f0 : ∀ W : World, (Op.stringOp .add inn ⟨#[112, 114, 105, 110, 116, 32]⟩).run Tryz.prog W = .ok (.string (inn ++ ⟨#[112, 114, 105, 110, 116, 32]⟩)) W := fun W => run_string_add_sum W _ _ (by simp only [z0]; omega)
 have f1 : ∀ W : World, (Op.stringOp .add (inn ++ ⟨#[112, 114, 105, 110, 116, 32]⟩) e).run Tryz.prog W = .ok (.string ((inn ++ ⟨#[112, 114, 105, 110, 116, 32]⟩) ++ e)) W := fun W => run_string_add_sum W _ _ (by simp only [ByteArray.size_append, z0]; omega)
 have f2 : ∀ W : World, (Op.stringOp .add ((inn ++ ⟨#[112, 114, 105, 110, 116, 32]⟩) ++ e) ⟨#[59, 10]⟩).run Tryz.prog W = .ok (.string (((inn ++ ⟨#[112, 114, 105, 110, 116, 32]⟩) ++ e) ++ ⟨#[59, 10]⟩)) W := fun W => run_string_add_sum W _ _ (by simp only [ByteArray.size_append, z0, z1]; omega)
 have f3 : ∀ W : World, (Op.stringOp .add out (((inn ++ ⟨#[112, 114, 105, 110, 116, 32]⟩) ++ e) ++ ⟨#[59, 10]⟩)).run Tryz.prog W = .ok (.string (out ++ (((inn ++ ⟨#[112, 114, 105, 110, 116, 32]⟩) ++ e) ++ ⟨#[59, 10]⟩))) W := fun W => run_string_add_sum W _ _ (by simp only [ByteArray.size_append, z0, z1]; omega)
 clear hz z0 z1
 go_wp2_with fail
 exact (unhide HQ) _ ⟨(by (repeat (with_reducible refine Fq.Kp.set ?_ (by decide) _)); with_reducible exact Fq.Kp.refl _ _), Fq.set_at _ (by simp [hT]) _, (by (repeat (with_reducible refine (Fq.set_ne _ (by decide) _).trans ?_)); exact s6), (by (repeat (with_reducible refine (Fq.set_ne _ (by decide) _).trans ?_)); exact s7), (by (repeat (with_reducible refine (Fq.set_ne _ (by decide) _).trans ?_)); exact s8)⟩
theorem cx_r29 {inn out e : ByteArray} (hT : T.size = 162) (s1 : T[1]? = some (.string inn)) (s5 : T[5]? = some (.string out)) (s6 : T[6]? = some (.int .i64 (i : Nat))) (s7 : T[7]? = some (.pointer (some ⟨bx, 0, none⟩))) (s8 : T[8]? = some (.string e))  (hz : out.size + (inn.size + 2) ≤ 140737488355328)
  (hQ : ∀ T', (Fq.Kp 5 T T' ∧ T'[5]? = some (.string (out ++ (inn ++ ⟨#[125, 10]⟩))) ∧ T'[6]? = some (.int .i64 (i : Nat)) ∧ T'[7]? = some (.pointer (some ⟨bx, 0, none⟩)) ∧ T'[8]? = some (.string e)) → Q .normal ⟨T', []⟩ (w)) : (Fq.reg Tryz.f42 29).wp Tryz.prog Q ⟨T, []⟩ w := by
 have a1 := fun h => Fq.el s1 h
 have d1 := Fq.gd s1
 have a5 := fun h => Fq.el s5 h
 have d5 := Fq.gd s5
 have a6 := fun h => Fq.el s6 h
 have d6 := Fq.gd s6
 have a7 := fun h => Fq.el s7 h
 have d7 := Fq.gd s7
 have a8 := fun h => Fq.el s8 h
 have d8 := Fq.gd s8
 have hu : undef = Value.tuple #[] := rfl
 have HQ := hide hQ
 clear hQ
 conv => arg 2; whnf
 have z0 : (⟨#[125, 10]⟩ : ByteArray).size = 2 := rfl
 have f0 : ∀ W : World, (Op.stringOp .add inn ⟨#[125, 10]⟩).run Tryz.prog W = .ok (.string (inn ++ ⟨#[125, 10]⟩)) W := fun W => run_string_add_sum W _ _ (by simp only [z0]; omega)
 have f1 : ∀ W : World, (Op.stringOp .add out (inn ++ ⟨#[125, 10]⟩)).run Tryz.prog W = .ok (.string (out ++ (inn ++ ⟨#[125, 10]⟩))) W := fun W => run_string_add_sum W _ _ (by simp only [ByteArray.size_append, z0]; omega)
 clear hz z0
 go_wp2_with fail
 exact (unhide HQ) _ ⟨(by (repeat (with_reducible refine Fq.Kp.set ?_ (by decide) _)); with_reducible exact Fq.Kp.refl _ _), Fq.set_at _ (by simp [hT]) _, (by (repeat (with_reducible refine (Fq.set_ne _ (by decide) _).trans ?_)); exact s6), (by (repeat (with_reducible refine (Fq.set_ne _ (by decide) _).trans ?_)); exact s7), (by (repeat (with_reducible refine (Fq.set_ne _ (by decide) _).trans ?_)); exact s8)⟩
theorem cx_r15 (hT : T.size = 162)
  (hQ : ∀ T', (Fq.Kp 9 T T' ∧ T'[9]? = some (.slice none 0 0)) → Q .normal ⟨T', []⟩ (w)) : (Fq.reg Tryz.f42 15).wp Tryz.prog Q ⟨T, []⟩ w := by
 have hu : undef = Value.tuple #[] := rfl
 have HQ := hide hQ
 clear hQ
 conv => arg 2; whnf
 go_wp2_with fail
 exact (unhide HQ) _ ⟨(by (repeat (with_reducible refine Fq.Kp.set ?_ (by decide) _)); with_reducible exact Fq.Kp.refl _ _), Fq.set_at _ (by simp [hT]) _⟩
theorem cx_r16 (hT : T.size = 162)
  (hQ : ∀ T', (Fq.Kp 10 T T' ∧ T'[10]? = some (.int .i64 0)) → Q .normal ⟨T', []⟩ (w)) : (Fq.reg Tryz.f42 16).wp Tryz.prog Q ⟨T, []⟩ w := by
 have hu : undef = Value.tuple #[] := rfl
 have HQ := hide hQ
 clear hQ
 conv => arg 2; whnf
 go_wp2_with fail
 exact (unhide HQ) _ ⟨(by (repeat (with_reducible refine Fq.Kp.set ?_ (by decide) _)); with_reducible exact Fq.Kp.refl _ _), Fq.set_at _ (by simp [hT]) _⟩
theorem cx_r17 {k : Nat} {VB : Bool} (hT : T.size = 162) (s7 : T[7]? = some (.pointer (some ⟨bx, 0, none⟩))) (s10 : T[10]? = some (.int .i64 (k : Nat))) (x14 : w.cell? ⟨bx, 14, none⟩ = some (.slice q.args.ad q.args.len q.args.cap)) (hVB : decide ((k : Int) < (q.args.len : Int)) = VB)
  (hQ : ∀ T', (Fq.Kp 11 T T' ∧ T'[65]? = some (.bool VB)) → Q .normal ⟨T', []⟩ (w)) : (Fq.reg Tryz.f42 17).wp Tryz.prog Q ⟨T, []⟩ w := by
 have a7 := fun h => Fq.el s7 h
 have d7 := Fq.gd s7
 have a10 := fun h => Fq.el s10 h
 have d10 := Fq.gd s10
 have hu : undef = Value.tuple #[] := rfl
 have HQ := hide hQ
 clear hQ
 conv => arg 2; whnf
 cases VB
 · have hlt : ¬ (k : Int) < (q.args.len : Int) := of_decide_eq_false hVB
   clear hVB
   go_wp2_with fail
   exact (unhide HQ) _ ⟨(by (repeat (with_reducible refine Fq.Kp.set ?_ (by decide) _)); with_reducible exact Fq.Kp.refl _ _), Fq.set_at _ (by simp [hT]) _⟩
 · have hlt : (k : Int) < (q.args.len : Int) := of_decide_eq_true hVB
   clear hVB
   go_wp2_with fail
   exact (unhide HQ) _ ⟨(by (repeat (with_reducible refine Fq.Kp.set ?_ (by decide) _)); with_reducible exact Fq.Kp.refl _ _), Fq.set_at _ (by simp [hT]) _⟩
theorem cx_r18 {k : Nat} (hT : T.size = 162) (s10 : T[10]? = some (.int .i64 (k : Nat))) (htl : k < 35184372088832)
  (hQ : ∀ T', (Fq.Kp 10 T T' ∧ T'[10]? = some (.int .i64 ((k + 1 : Nat) : Int))) → Q .normal ⟨T', []⟩ (w)) : (Fq.reg Tryz.f42 18).wp Tryz.prog Q ⟨T, []⟩ w := by
 have a10 := fun h => Fq.el s10 h
 have d10 := Fq.gd s10
 have hu : undef = Value.tuple #[] := rfl
 have HQ := hide hQ
 clear hQ
 conv => arg 2; whnf
 have hc : ((k + 1 : Nat) : Int) = (k : Int) + 1 := by omega
 have hw0 : IntKind.i64.wrap ((k : Int) + 1) = (k : Int) + 1 := by rw [IntKind.wrap_i64]; omega
 rw [hc] at HQ
 go_wp2_with fail
 exact (unhide HQ) _ ⟨(by (repeat (with_reducible refine Fq.Kp.set ?_ (by decide) _)); with_reducible exact Fq.Kp.refl _ _), Fq.set_at _ (by simp [hT]) _⟩
theorem cx_r26 {inn out e tt : ByteArray} (hT : T.size = 162) (s1 : T[1]? = some (.string inn)) (s5 : T[5]? = some (.string out)) (s6 : T[6]? = some (.int .i64 (i : Nat))) (s7 : T[7]? = some (.pointer (some ⟨bx, 0, none⟩))) (s8 : T[8]? = some (.string e)) (x15 : w.cell? ⟨bx, 15, none⟩ = some (.slice q.th.ad q.th.len q.th.cap)) (hz : out.size + (inn.size + 3 + e.size + 3 + tt.size) ≤ 140737488355328) (hc : Calls Tryz.prog 42 #[.slice q.th.ad q.th.len q.th.cap, .string (inn ++ ⟨#[32, 32]⟩)] w fun r w' => r = .returned (.string tt) ∧ Below w.heap.size w w')
  (hQ : ∀ T' w', (Fq.Kp 5 T T' ∧ T'[5]? = some (.string (out ++ ((((inn ++ ⟨#[105, 102, 32]⟩) ++ e) ++ ⟨#[32, 123, 10]⟩) ++ tt))) ∧ T'[6]? = some (.int .i64 (i : Nat)) ∧ T'[7]? = some (.pointer (some ⟨bx, 0, none⟩)) ∧ T'[8]? = some (.string e) ∧ Below w.heap.size w w') → Q .normal ⟨T', []⟩ w') : (Fq.reg Tryz.f42 26).wp Tryz.prog Q ⟨T, []⟩ w := by
 have a1 := fun h => Fq.el s1 h
 have d1 := Fq.gd s1
 have a5 := fun h => Fq.el s5 h
 have d5 := Fq.gd s5
 have a6 := fun h => Fq.el s6 h
 have d6 := Fq.gd s6
 have a7 := fun h => Fq.el s7 h
 have d7 := Fq.gd s7
 have a8 := fun h => Fq.el s8 h
 have d8 := Fq.gd s8
 have hu : undef = Value.tuple #[] := rfl
 have HQ := hide hQ
 clear hQ
 conv => arg 2; whnf
 have HC := hide hc
 clear hc
 have z9 : (⟨#[32, 32]⟩ : ByteArray).size = 2 := rfl
 have f9 : ∀ W : World, (Op.stringOp .add inn ⟨#[32, 32]⟩).run Tryz.prog W = .ok (.string (inn ++ ⟨#[32, 32]⟩)) W := fun W => run_string_add_sum W _ _ (by simp only [z9]; omega)
 have z0 : (⟨#[105, 102, 32]⟩ : ByteArray).size = 3 := rfl
 have z1 : (⟨#[32, 123, 10]⟩ : ByteArray).size = 3 := rfl
 have f0 : ∀ W : World, (Op.stringOp .add inn ⟨#[105, 102, 32]⟩).run Tryz.prog W = .ok (.string (inn ++ ⟨#[105, 102, 32]⟩)) W := fun W => run_string_add_sum W _ _ (by simp only [z0]; omega)
 have f1 : ∀ W : World, (Op.stringOp .add (inn ++ ⟨#[105, 102, 32]⟩) e).run Tryz.prog W = .ok (.string ((inn ++ ⟨#[105, 102, 32]⟩) ++ e)) W := fun W => run_string_add_sum W _ _ (by simp only [ByteArray.size_append, z0]; omega)
 have f2 : ∀ W : World, (Op.stringOp .add ((inn ++ ⟨#[105, 102, 32]⟩) ++ e) ⟨#[32, 123, 10]⟩).run Tryz.prog W = .ok (.string (((inn ++ ⟨#[105, 102, 32]⟩) ++ e) ++ ⟨#[32, 123, 10]⟩)) W := fun W => run_string_add_sum W _ _ (by simp only [ByteArray.size_append, z0, z1]; omega)
 have f3 : ∀ W : World, (Op.stringOp .add (((inn ++ ⟨#[105, 102, 32]⟩) ++ e) ++ ⟨#[32, 123, 10]⟩) tt).run Tryz.prog W = .ok (.string ((((inn ++ ⟨#[105, 102, 32]⟩) ++ e) ++ ⟨#[32, 123, 10]⟩) ++ tt)) W := fun W => run_string_add_sum W _ _ (by simp only [ByteArray.size_append, z0, z1]; omega)
 have f4 : ∀ W : World, (Op.stringOp .add out ((((inn ++ ⟨#[105, 102, 32]⟩) ++ e) ++ ⟨#[32, 123, 10]⟩) ++ tt)).run Tryz.prog W = .ok (.string (out ++ ((((inn ++ ⟨#[105, 102, 32]⟩) ++ e) ++ ⟨#[32, 123, 10]⟩) ++ tt))) W := fun W => run_string_add_sum W _ _ (by simp only [ByteArray.size_append, z0, z1]; omega)
 clear hz z9 z0 z1
 go_wp2_with (with_reducible refine (Calls.mono (unhide HC) ?_); rintro r w2 ⟨rfl, hb2⟩; have HB := hide hb2; clear hb2)
 exact (unhide HQ) _ _ ⟨(by (repeat (with_reducible refine Fq.Kp.set ?_ (by decide) _)); with_reducible exact Fq.Kp.refl _ _), Fq.set_at _ (by simp [hT]) _, (by (repeat (with_reducible refine (Fq.set_ne _ (by decide) _).trans ?_)); exact s6), (by (repeat (with_reducible refine (Fq.set_ne _ (by decide) _).trans ?_)); exact s7), (by (repeat (with_reducible refine (Fq.set_ne _ (by decide) _).trans ?_)); exact s8), unhide HB⟩
theorem cx_r28 {inn out e tt : ByteArray} (hT : T.size = 162) (s1 : T[1]? = some (.string inn)) (s5 : T[5]? = some (.string out)) (s6 : T[6]? = some (.int .i64 (i : Nat))) (s7 : T[7]? = some (.pointer (some ⟨bx, 0, none⟩))) (s8 : T[8]? = some (.string e)) (x16 : w.cell? ⟨bx, 16, none⟩ = some (.slice q.el.ad q.el.len q.el.cap)) (hz : out.size + (inn.size + 9 + tt.size) ≤ 140737488355328) (hc : Calls Tryz.prog 42 #[.slice q.el.ad q.el.len q.el.cap, .string (inn ++ ⟨#[32, 32]⟩)] w fun r w' => r = .returned (.string tt) ∧ Below w.heap.size w w')
  (hQ : ∀ T' w', (Fq.Kp 5 T T' ∧ T'[5]? = some (.string (out ++ ((inn ++ ⟨#[125, 32, 101, 108, 115, 101, 32, 123, 10]⟩) ++ tt))) ∧ T'[6]? = some (.int .i64 (i : Nat)) ∧ T'[7]? = some (.pointer (some ⟨bx, 0, none⟩)) ∧ T'[8]? = some (.string e) ∧ Below w.heap.size w w') → Q .normal ⟨T', []⟩ w') : (Fq.reg Tryz.f42 28).wp Tryz.prog Q ⟨T, []⟩ w := by
 have a1 := fun h => Fq.el s1 h
 have d1 := Fq.gd s1
 have a5 := fun h => Fq.el s5 h
 have d5 := Fq.gd s5
 have a6 := fun h => Fq.el s6 h
 have d6 := Fq.gd s6
 have a7 := fun h => Fq.el s7 h
 have d7 := Fq.gd s7
 have a8 := fun h => Fq.el s8 h
 have d8 := Fq.gd s8
 have hu : undef = Value.tuple #[] := rfl
 have HQ := hide hQ
 clear hQ
 conv => arg 2; whnf
 have HC := hide hc
 clear hc
 have z9 : (⟨#[32, 32]⟩ : ByteArray).size = 2 := rfl
 have f9 : ∀ W : World, (Op.stringOp .add inn ⟨#[32, 32]⟩).run Tryz.prog W = .ok (.string (inn ++ ⟨#[32, 32]⟩)) W := fun W => run_string_add_sum W _ _ (by simp only [z9]; omega)
 have z0 : (⟨#[125, 32, 101, 108, 115, 101, 32, 123, 10]⟩ : ByteArray).size = 9 := rfl
 have f0 : ∀ W : World, (Op.stringOp .add inn ⟨#[125, 32, 101, 108, 115, 101, 32, 123, 10]⟩).run Tryz.prog W = .ok (.string (inn ++ ⟨#[125, 32, 101, 108, 115, 101, 32, 123, 10]⟩)) W := fun W => run_string_add_sum W _ _ (by simp only [z0]; omega)
 have f1 : ∀ W : World, (Op.stringOp .add (inn ++ ⟨#[125, 32, 101, 108, 115, 101, 32, 123, 10]⟩) tt).run Tryz.prog W = .ok (.string ((inn ++ ⟨#[125, 32, 101, 108, 115, 101, 32, 123, 10]⟩) ++ tt)) W := fun W => run_string_add_sum W _ _ (by simp only [ByteArray.size_append, z0]; omega)
 have f2 : ∀ W : World, (Op.stringOp .add out ((inn ++ ⟨#[125, 32, 101, 108, 115, 101, 32, 123, 10]⟩) ++ tt)).run Tryz.prog W = .ok (.string (out ++ ((inn ++ ⟨#[125, 32, 101, 108, 115, 101, 32, 123, 10]⟩) ++ tt))) W := fun W => run_string_add_sum W _ _ (by simp only [ByteArray.size_append, z0]; omega)
 clear hz z9 z0
 go_wp2_with (with_reducible refine (Calls.mono (unhide HC) ?_); rintro r w2 ⟨rfl, hb2⟩; have HB := hide hb2; clear hb2)
 exact (unhide HQ) _ _ ⟨(by (repeat (with_reducible refine Fq.Kp.set ?_ (by decide) _)); with_reducible exact Fq.Kp.refl _ _), Fq.set_at _ (by simp [hT]) _, (by (repeat (with_reducible refine (Fq.set_ne _ (by decide) _).trans ?_)); exact s6), (by (repeat (with_reducible refine (Fq.set_ne _ (by decide) _).trans ?_)); exact s7), (by (repeat (with_reducible refine (Fq.set_ne _ (by decide) _).trans ?_)); exact s8), unhide HB⟩
theorem cx_r31 {inn out e tt : ByteArray} (hT : T.size = 162) (s1 : T[1]? = some (.string inn)) (s5 : T[5]? = some (.string out)) (s6 : T[6]? = some (.int .i64 (i : Nat))) (s7 : T[7]? = some (.pointer (some ⟨bx, 0, none⟩))) (s8 : T[8]? = some (.string e)) (x15 : w.cell? ⟨bx, 15, none⟩ = some (.slice q.th.ad q.th.len q.th.cap)) (hz : out.size + (inn.size + 6 + e.size + 3 + tt.size + inn.size + 2) ≤ 140737488355328) (hc : Calls Tryz.prog 42 #[.slice q.th.ad q.th.len q.th.cap, .string (inn ++ ⟨#[32, 32]⟩)] w fun r w' => r = .returned (.string tt) ∧ Below w.heap.size w w')
  (hQ : ∀ T' w', (Fq.Kp 5 T T' ∧ T'[5]? = some (.string (out ++ ((((((inn ++ ⟨#[119, 104, 105, 108, 101, 32]⟩) ++ e) ++ ⟨#[32, 123, 10]⟩) ++ tt) ++ inn) ++ ⟨#[125, 10]⟩))) ∧ T'[6]? = some (.int .i64 (i : Nat)) ∧ T'[7]? = some (.pointer (some ⟨bx, 0, none⟩)) ∧ T'[8]? = some (.string e) ∧ Below w.heap.size w w') → Q .normal ⟨T', []⟩ w') : (Fq.reg Tryz.f42 31).wp Tryz.prog Q ⟨T, []⟩ w := by
 have a1 := fun h => Fq.el s1 h
 have d1 := Fq.gd s1
 have a5 := fun h => Fq.el s5 h
 have d5 := Fq.gd s5
 have a6 := fun h => Fq.el s6 h
 have d6 := Fq.gd s6
 have a7 := fun h => Fq.el s7 h
 have d7 := Fq.gd s7
 have a8 := fun h => Fq.el s8 h
 have d8 := Fq.gd s8
 have hu : undef = Value.tuple #[] := rfl
 have HQ := hide hQ
 clear hQ
 conv => arg 2; whnf
 have HC := hide hc
 clear hc
 have z9 : (⟨#[32, 32]⟩ : ByteArray).size = 2 := rfl
 have f9 : ∀ W : World, (Op.stringOp .add inn ⟨#[32, 32]⟩).run Tryz.prog W = .ok (.string (inn ++ ⟨#[32, 32]⟩)) W := fun W => run_string_add_sum W _ _ (by simp only [z9]; omega)
 have z0 : (⟨#[119, 104, 105, 108, 101, 32]⟩ : ByteArray).size = 6 := rfl
 have z1 : (⟨#[32, 123, 10]⟩ : ByteArray).size = 3 := rfl
 have z2 : (⟨#[125, 10]⟩ : ByteArray).size = 2 := rfl
 have f0 : ∀ W : World, (Op.stringOp .add inn ⟨#[119, 104, 105, 108, 101, 32]⟩).run Tryz.prog W = .ok (.string (inn ++ ⟨#[119, 104, 105, 108, 101, 32]⟩)) W := fun W => run_string_add_sum W _ _ (by simp only [z0]; omega)
 have f1 : ∀ W : World, (Op.stringOp .add (inn ++ ⟨#[119, 104, 105, 108, 101, 32]⟩) e).run Tryz.prog W = .ok (.string ((inn ++ ⟨#[119, 104, 105, 108, 101, 32]⟩) ++ e)) W := fun W => run_string_add_sum W _ _ (by simp only [ByteArray.size_append, z0]; omega)
 have f2 : ∀ W : World, (Op.stringOp .add ((inn ++ ⟨#[119, 104, 105, 108, 101, 32]⟩) ++ e) ⟨#[32, 123, 10]⟩).run Tryz.prog W = .ok (.string (((inn ++ ⟨#[119, 104, 105, 108, 101, 32]⟩) ++ e) ++ ⟨#[32, 123, 10]⟩)) W := fun W => run_string_add_sum W _ _ (by simp only [ByteArray.size_append, z0, z1]; omega)
 have f3 : ∀ W : World, (Op.stringOp .add (((inn ++ ⟨#[119, 104, 105, 108, 101, 32]⟩) ++ e) ++ ⟨#[32, 123, 10]⟩) tt).run Tryz.prog W = .ok (.string ((((inn ++ ⟨#[119, 104, 105, 108, 101, 32]⟩) ++ e) ++ ⟨#[32, 123, 10]⟩) ++ tt)) W := fun W => run_string_add_sum W _ _ (by simp only [ByteArray.size_append, z0, z1]; omega)
 have f4 : ∀ W : World, (Op.stringOp .add ((((inn ++ ⟨#[119, 104, 105, 108, 101, 32]⟩) ++ e) ++ ⟨#[32, 123, 10]⟩) ++ tt) inn).run Tryz.prog W = .ok (.string (((((inn ++ ⟨#[119, 104, 105, 108, 101, 32]⟩) ++ e) ++ ⟨#[32, 123, 10]⟩) ++ tt) ++ inn)) W := fun W => run_string_add_sum W _ _ (by simp only [ByteArray.size_append, z0, z1]; omega)
 have f5 : ∀ W : World, (Op.stringOp .add (((((inn ++ ⟨#[119, 104, 105, 108, 101, 32]⟩) ++ e) ++ ⟨#[32, 123, 10]⟩) ++ tt) ++ inn) ⟨#[125, 10]⟩).run Tryz.prog W = .ok (.string ((((((inn ++ ⟨#[119, 104, 105, 108, 101, 32]⟩) ++ e) ++ ⟨#[32, 123, 10]⟩) ++ tt) ++ inn) ++ ⟨#[125, 10]⟩)) W := fun W => run_string_add_sum W _ _ (by simp only [ByteArray.size_append, z0, z1, z2]; omega)
 have f6 : ∀ W : World, (Op.stringOp .add out ((((((inn ++ ⟨#[119, 104, 105, 108, 101, 32]⟩) ++ e) ++ ⟨#[32, 123, 10]⟩) ++ tt) ++ inn) ++ ⟨#[125, 10]⟩)).run Tryz.prog W = .ok (.string (out ++ ((((((inn ++ ⟨#[119, 104, 105, 108, 101, 32]⟩) ++ e) ++ ⟨#[32, 123, 10]⟩) ++ tt) ++ inn) ++ ⟨#[125, 10]⟩))) W := fun W => run_string_add_sum W _ _ (by simp only [ByteArray.size_append, z0, z1, z2]; omega)
 clear hz z9 z0 z1 z2
 go_wp2_with (with_reducible refine (Calls.mono (unhide HC) ?_); rintro r w2 ⟨rfl, hb2⟩; have HB := hide hb2; clear hb2)
 exact (unhide HQ) _ _ ⟨(by (repeat (with_reducible refine Fq.Kp.set ?_ (by decide) _)); with_reducible exact Fq.Kp.refl _ _), Fq.set_at _ (by simp [hT]) _, (by (repeat (with_reducible refine (Fq.set_ne _ (by decide) _).trans ?_)); exact s6), (by (repeat (with_reducible refine (Fq.set_ne _ (by decide) _).trans ?_)); exact s7), (by (repeat (with_reducible refine (Fq.set_ne _ (by decide) _).trans ?_)); exact s8), unhide HB⟩
theorem cx_r27 {VB : Bool} (hT : T.size = 162) (s7 : T[7]? = some (.pointer (some ⟨bx, 0, none⟩))) (x16 : w.cell? ⟨bx, 16, none⟩ = some (.slice q.el.ad q.el.len q.el.cap)) (hVB : decide (0 < q.el.len) = VB)
  (hQ : ∀ T', (Fq.Kp 11 T T' ∧ T'[128]? = some (.bool VB)) → Q .normal ⟨T', []⟩ (w)) : (Fq.reg Tryz.f42 27).wp Tryz.prog Q ⟨T, []⟩ w := by
 have a7 := fun h => Fq.el s7 h
 have d7 := Fq.gd s7
 have hu : undef = Value.tuple #[] := rfl
 have HQ := hide hQ
 clear hQ
 conv => arg 2; whnf
 subst hVB
 go_wp2_with fail
 exact (unhide HQ) _ ⟨(by (repeat (with_reducible refine Fq.Kp.set ?_ (by decide) _)); with_reducible exact Fq.Kp.refl _ _), Fq.set_at _ (by simp [hT]) _⟩
theorem cx_r32 {out : ByteArray} (hT : T.size = 162) (s5 : T[5]? = some (.string out))
  (hQ : ∀ T', (Fq.Kp 4 T T' ∧ T'[4]? = some (.string out)) → Q .normal ⟨T', []⟩ (w)) : (Fq.reg Tryz.f42 32).wp Tryz.prog Q ⟨T, []⟩ w := by
 have a5 := fun h => Fq.el s5 h
 have d5 := Fq.gd s5
 have hu : undef = Value.tuple #[] := rfl
 have HQ := hide hQ
 clear hQ
 conv => arg 2; whnf
 go_wp2_with fail
 exact (unhide HQ) _ ⟨(by (repeat (with_reducible refine Fq.Kp.set ?_ (by decide) _)); with_reducible exact Fq.Kp.refl _ _), Fq.set_at _ (by simp [hT]) _⟩
theorem cx_r19 {k ba oa B : Nat} {ga : Option Addr} {ca : Nat} {x : Tk.E} {t : ByteArray} {ts : List ByteArray} (hT : T.size = 162) (s7 : T[7]? = some (.pointer (some ⟨bx, 0, none⟩))) (s9 : T[9]? = some (.slice ga k ca)) (s10 : T[10]? = some (.int .i64 (k : Nat))) (x14 : w.cell? ⟨bx, 14, none⟩ = some (.slice (some ⟨ba, oa, none⟩) q.args.len q.args.cap)) (hk : k < q.args.len) (y0 : w.cell? ⟨ba, oa + k * 5, none⟩ = some (.int .i64 x.k)) (y1 : w.cell? ⟨ba, oa + k * 5 + 1, none⟩ = some (.int .i64 x.a)) (y2 : w.cell? ⟨ba, oa + k * 5 + 2, none⟩ = some (.int .i64 x.n)) (y3 : w.cell? ⟨ba, oa + k * 5 + 3, none⟩ = some (.string x.nm)) (y4 : w.cell? ⟨ba, oa + k * 5 + 4, none⟩ = some (.slice x.args.ad x.args.len x.args.cap))
  (hc : Calls Tryz.prog 43 #[.agg #[.int .i64 x.k, .int .i64 x.a, .int .i64 x.n, .string x.nm, .slice x.args.ad x.args.len x.args.cap]] w fun r w' => r = .returned (.string t) ∧ Below w.heap.size w w') (hown : w.ownsRow B 9 1 (.slice ga k ca) k (ts.map Value.string)) (hk1 : k + 1 ≤ 1000) (hB : B ≤ w.heap.size)
  (hQ : ∀ T' w' gv, (Fq.Kp 9 T T' ∧ T'[9]? = some gv ∧ T'[10]? = some (.int .i64 (k : Nat)) ∧ w'.ownsRow B 9 1 gv (k + 1) ((ts ++ [t]).map Value.string) ∧ Below B w w') → Q .normal ⟨T', []⟩ w') : (Fq.reg Tryz.f42 19).wp Tryz.prog Q ⟨T, []⟩ w := by
 have HQ := hide hQ
 clear hQ
 conv => arg 2; whnf
 obtain ⟨t9, ht⟩ : ∃ t : Nat → Value, t = fun i => T.getD i (.tuple #[]) := ⟨_, rfl⟩
 have hTl : T = #[t9 0, t9 1, t9 2, t9 3, t9 4, t9 5, t9 6, t9 7, t9 8, t9 9, t9 10, t9 11, t9 12, t9 13, t9 14, t9 15, t9 16, t9 17, t9 18, t9 19, t9 20, t9 21, t9 22, t9 23, t9 24, t9 25, t9 26, t9 27, t9 28, t9 29, t9 30, t9 31, t9 32, t9 33, t9 34, t9 35, t9 36, t9 37, t9 38, t9 39, t9 40, t9 41, t9 42, t9 43, t9 44, t9 45, t9 46, t9 47, t9 48, t9 49, t9 50, t9 51, t9 52, t9 53, t9 54, t9 55, t9 56, t9 57, t9 58, t9 59, t9 60, t9 61, t9 62, t9 63, t9 64, t9 65, t9 66, t9 67, t9 68, t9 69, t9 70, t9 71, t9 72, t9 73, t9 74, t9 75, t9 76, t9 77, t9 78, t9 79, t9 80, t9 81, t9 82, t9 83, t9 84, t9 85, t9 86, t9 87, t9 88, t9 89, t9 90, t9 91, t9 92, t9 93, t9 94, t9 95, t9 96, t9 97, t9 98, t9 99, t9 100, t9 101, t9 102, t9 103, t9 104, t9 105, t9 106, t9 107, t9 108, t9 109, t9 110, t9 111, t9 112, t9 113, t9 114, t9 115, t9 116, t9 117, t9 118, t9 119, t9 120, t9 121, t9 122, t9 123, t9 124, t9 125, t9 126, t9 127, t9 128, t9 129, t9 130, t9 131, t9 132, t9 133, t9 134, t9 135, t9 136, t9 137, t9 138, t9 139, t9 140, t9 141, t9 142, t9 143, t9 144, t9 145, t9 146, t9 147, t9 148, t9 149, t9 150, t9 151, t9 152, t9 153, t9 154, t9 155, t9 156, t9 157, t9 158, t9 159, t9 160, t9 161] := by rw [ht]; exact Fq.ls_is hT
 rw [(congrFun ht 7).trans (Fq.gd s7), (congrFun ht 9).trans (Fq.gd s9), (congrFun ht 10).trans (Fq.gd s10)] at hTl
 clear ht hT s7 s9 s10
 refine Fq.fr hTl ?_
 have HTL := hide hTl
 clear hTl
 obtain ⟨i0, hi, hz0, hz1, hz2⟩ := Sp.info_of Tryz.infoSt
 have HI := hide (And.intro hi (And.intro hz0 (And.intro hz1 hz2)))
 have HC := hide hc
 have HO1 := hide hown
 clear hc hown hi hz0 hz1 hz2
 have hk0 : (0 : Int) ≤ (k : Int) := by omega
 have hk2 : (k : Int) < (q.args.len : Int) := by omega
 go_wp2_with fail
 refine (unhide HC).mono ?_
 rintro r w2 ⟨rfl, hb2⟩
 have HB2 := hide hb2
 clear hb2
 have hs2 := (unhide HB2).size
 have hsN : (w2.alloc (Obj.cells #[.string t] 9)).heap.size = w2.heap.size + 1 := by simp
 have hbn := (Below.refl w2.heap.size w2).alloc (Nat.le_refl _) (Obj.cells #[.string t] 9)
 have hrow := (Sp.row_below (unhide HO1) (unhide HB2)).alloc (Obj.cells #[.string t] 9)
 have HB3 := hide ((unhide HB2).trans (hbn.mono hs2))
 have HROW := hide hrow
 have HBK := hide (heap_alloc_new w2 (Obj.cells #[.string t] 9))
 clear hbn hrow
 go_wp2_with (at_builtin; refine wpList_append_lies _ (by rfl) _ _ _ (by rfl) B 9 i0 _ 1 16 Tryz.underlying47 (unhide HI).1 (unhide HI).2.1 (unhide HI).2.2.1 (unhide HI).2.2.2 rfl (by omega) (.slice ga k ca) k (ts.map Value.string) (by rfl) (unhide HROW) ⟨w2.heap.size, 0, none⟩ 1 1 [.string t] (by rfl) (by rfl) (World.news_of_block (unhide HBK)) (by simp [Value.oneCell']) (by omega) (by unfold maxLen; omega) (by omega) (by omega) (w2.heap.size + 1) (by omega) ?_; intro gA cA w4 hoA hgA hatA hltA; have HOA := hide hoA; have HGA := hide hgA; clear hoA hgA hatA hltA)
 refine (unhide HQ) _ _ _ ⟨⟨by rw [unhide HTL]; rfl, fun k hk => by rw [unhide HTL]; rcases (show k = 0 ∨ k = 1 ∨ k = 2 ∨ k = 3 ∨ k = 4 ∨ k = 5 ∨ k = 6 ∨ k = 7 ∨ k = 8 by omega) with rfl | rfl | rfl | rfl | rfl | rfl | rfl | rfl | rfl <;> rfl⟩, rfl, rfl, ?_, ((unhide HB3).mono hB).trans (Sp.grow_below (unhide HROW) (unhide HGA) (by omega))⟩
 rw [List.map_append]
 exact unhide HOA
end
end Go.Proofs.YtfccpddehpgfoaaGreatDoor
namespace Go.Proofs.YtfccpddehpgfoaaGreatDoor
open Go.RowKit
set_option linter.unusedVariables false
section
variable {T : Array Value} {w : World} {Q : Exit → Act → World → Prop} {q : Tk.C} {s : Tk.Sl} {bx i : Nat}
theorem cx_r13 {inn out e tt : ByteArray} (hT : T.size = 162) (s1 : T[1]? = some (.string inn)) (s5 : T[5]? = some (.string out)) (s6 : T[6]? = some (.int .i64 (i : Nat))) (s7 : T[7]? = some (.pointer (some ⟨bx, 0, none⟩))) (s8 : T[8]? = some (.string e)) (hbv : Tk.BV w bx q.cells) (hbx : bx < w.heap.size) (hz : out.size + (inn.size + q.nm.size + 1 + tt.size + 4 + e.size + 2) ≤ 140737488355328) (hc : ∀ V, Below w.heap.size w V → Calls Tryz.prog 43 #[.agg #[.int .i64 q.ix.k, .int .i64 q.ix.a, .int .i64 q.ix.n, .string q.ix.nm, .slice q.ix.args.ad q.ix.args.len q.ix.args.cap]] V fun r w' => r = .returned (.string tt) ∧ Below V.heap.size V w')
  (hQ : ∀ T' w', (Fq.Kp 5 T T' ∧ T'[5]? = some (.string (out ++ ((((((inn ++ q.nm) ++ ⟨#[91]⟩) ++ tt) ++ ⟨#[93, 32, 61, 32]⟩) ++ e) ++ ⟨#[59, 10]⟩))) ∧ T'[6]? = some (.int .i64 (i : Nat)) ∧ T'[7]? = some (.pointer (some ⟨bx, 0, none⟩)) ∧ T'[8]? = some (.string e) ∧ Below w.heap.size w w') → Q .normal ⟨T', []⟩ w') : (Fq.reg Tryz.f42 13).wp Tryz.prog Q ⟨T, []⟩ w := by
 have HQ := hide hQ
 clear hQ
 conv => arg 2; whnf
 refine Fq.norm (fun T' w' => Fq.Kp 5 T T' ∧ T'[5]? = some (.string (out ++ ((((((inn ++ q.nm) ++ ⟨#[91]⟩) ++ tt) ++ ⟨#[93, 32, 61, 32]⟩) ++ e) ++ ⟨#[59, 10]⟩))) ∧ T'[6]? = some (.int .i64 (i : Nat)) ∧ T'[7]? = some (.pointer (some ⟨bx, 0, none⟩)) ∧ T'[8]? = some (.string e) ∧ Below w.heap.size w w') (fun T' w' h => (unhide HQ) T' w' h) ?_
 obtain ⟨t, ht⟩ : ∃ t : Nat → Value, t = fun i => T.getD i (.tuple #[]) := ⟨_, rfl⟩
 have hTl : T = #[t 0, t 1, t 2, t 3, t 4, t 5, t 6, t 7, t 8, t 9, t 10, t 11, t 12, t 13, t 14, t 15, t 16, t 17, t 18, t 19, t 20, t 21, t 22, t 23, t 24, t 25, t 26, t 27, t 28, t 29, t 30, t 31, t 32, t 33, t 34, t 35, t 36, t 37, t 38, t 39, t 40, t 41, t 42, t 43, t 44, t 45, t 46, t 47, t 48, t 49, t 50, t 51, t 52, t 53, t 54, t 55, t 56, t 57, t 58, t 59, t 60, t 61, t 62, t 63, t 64, t 65, t 66, t 67, t 68, t 69, t 70, t 71, t 72, t 73, t 74, t 75, t 76, t 77, t 78, t 79, t 80, t 81, t 82, t 83, t 84, t 85, t 86, t 87, t 88, t 89, t 90, t 91, t 92, t 93, t 94, t 95, t 96, t 97, t 98, t 99, t 100, t 101, t 102, t 103, t 104, t 105, t 106, t 107, t 108, t 109, t 110, t 111, t 112, t 113, t 114, t 115, t 116, t 117, t 118, t 119, t 120, t 121, t 122, t 123, t 124, t 125, t 126, t 127, t 128, t 129, t 130, t 131, t 132, t 133, t 134, t 135, t 136, t 137, t 138, t 139, t 140, t 141, t 142, t 143, t 144, t 145, t 146, t 147, t 148, t 149, t 150, t 151, t 152, t 153, t 154, t 155, t 156, t 157, t 158, t 159, t 160, t 161] := by rw [ht]; exact Fq.ls_is hT
 rw [(congrFun ht 1).trans (Fq.gd s1), (congrFun ht 5).trans (Fq.gd s5), (congrFun ht 6).trans (Fq.gd s6), (congrFun ht 7).trans (Fq.gd s7), (congrFun ht 8).trans (Fq.gd s8)] at hTl
 clear ht hT s1 s5 s6 s7 s8
 refine Fq.fr hTl ?_
 have HTL := hide hTl
 clear hTl
 have HKM := hide (show ∀ V : World, Below w.heap.size w V → (Below w.heap.size w V ∧ V.cell? ⟨bx, 2, none⟩ = some (.string q.nm) ∧ V.cell? ⟨bx, 4, none⟩ = some (.int .i64 q.ix.k) ∧ V.cell? ⟨bx, 5, none⟩ = some (.int .i64 q.ix.a) ∧ V.cell? ⟨bx, 6, none⟩ = some (.int .i64 q.ix.n) ∧ V.cell? ⟨bx, 7, none⟩ = some (.string q.ix.nm) ∧ V.cell? ⟨bx, 8, none⟩ = some (.slice q.ix.args.ad q.ix.args.len q.ix.args.cap)) from fun V hV => ⟨hV, (hbv.below hV hbx) 2 _ rfl, (hbv.below hV hbx) 4 _ rfl, (hbv.below hV hbx) 5 _ rfl, (hbv.below hV hbx) 6 _ rfl, (hbv.below hV hbx) 7 _ rfl, (hbv.below hV hbx) 8 _ rfl⟩)
 have HC0 := hide hc
 clear hbv hbx hc
 have z0 : (⟨#[91]⟩ : ByteArray).size = 1 := rfl
 have z1 : (⟨#[93, 32, 61, 32]⟩ : ByteArray).size = 4 := rfl
 have z2 : (⟨#[59, 10]⟩ : ByteArray).size = 2 := rfl
 have f0 : ∀ W : World, (Op.stringOp .add inn q.nm).run Tryz.prog W = .ok (.string (inn ++ q.nm)) W := fun W => run_string_add_sum W _ _ (by omega)
 have f1 : ∀ W : World, (Op.stringOp .add (inn ++ q.nm) ⟨#[91]⟩).run Tryz.prog W = .ok (.string ((inn ++ q.nm) ++ ⟨#[91]⟩)) W := fun W => run_string_add_sum W _ _ (by simp only [ByteArray.size_append, z0]; omega)
 have f2 : ∀ W : World, (Op.stringOp .add ((inn ++ q.nm) ++ ⟨#[91]⟩) tt).run Tryz.prog W = .ok (.string (((inn ++ q.nm) ++ ⟨#[91]⟩) ++ tt)) W := fun W => run_string_add_sum W _ _ (by simp only [ByteArray.size_append, z0]; omega)
 have f3 : ∀ W : World, (Op.stringOp .add (((inn ++ q.nm) ++ ⟨#[91]⟩) ++ tt) ⟨#[93, 32, 61, 32]⟩).run Tryz.prog W = .ok (.string ((((inn ++ q.nm) ++ ⟨#[91]⟩) ++ tt) ++ ⟨#[93, 32, 61, 32]⟩)) W := fun W => run_string_add_sum W _ _ (by simp only [ByteArray.size_append, z0, z1]; omega)
 have f4 : ∀ W : World, (Op.stringOp .add ((((inn ++ q.nm) ++ ⟨#[91]⟩) ++ tt) ++ ⟨#[93, 32, 61, 32]⟩) e).run Tryz.prog W = .ok (.string (((((inn ++ q.nm) ++ ⟨#[91]⟩) ++ tt) ++ ⟨#[93, 32, 61, 32]⟩) ++ e)) W := fun W => run_string_add_sum W _ _ (by simp only [ByteArray.size_append, z0, z1]; omega)
 have f5 : ∀ W : World, (Op.stringOp .add (((((inn ++ q.nm) ++ ⟨#[91]⟩) ++ tt) ++ ⟨#[93, 32, 61, 32]⟩) ++ e) ⟨#[59, 10]⟩).run Tryz.prog W = .ok (.string ((((((inn ++ q.nm) ++ ⟨#[91]⟩) ++ tt) ++ ⟨#[93, 32, 61, 32]⟩) ++ e) ++ ⟨#[59, 10]⟩)) W := fun W => run_string_add_sum W _ _ (by simp only [ByteArray.size_append, z0, z1, z2]; omega)
 have f6 : ∀ W : World, (Op.stringOp .add out ((((((inn ++ q.nm) ++ ⟨#[91]⟩) ++ tt) ++ ⟨#[93, 32, 61, 32]⟩) ++ e) ++ ⟨#[59, 10]⟩)).run Tryz.prog W = .ok (.string (out ++ ((((((inn ++ q.nm) ++ ⟨#[91]⟩) ++ tt) ++ ⟨#[93, 32, 61, 32]⟩) ++ e) ++ ⟨#[59, 10]⟩))) W := fun W => run_string_add_sum W _ _ (by simp only [ByteArray.size_append, z0, z1, z2]; omega)
 clear hz z0 z1 z2
 go_region_held3 (fun V => Below w.heap.size w V ∧ V.cell? ⟨bx, 2, none⟩ = some (.string q.nm) ∧ V.cell? ⟨bx, 4, none⟩ = some (.int .i64 q.ix.k) ∧ V.cell? ⟨bx, 5, none⟩ = some (.int .i64 q.ix.a) ∧ V.cell? ⟨bx, 6, none⟩ = some (.int .i64 q.ix.n) ∧ V.cell? ⟨bx, 7, none⟩ = some (.string q.ix.nm) ∧ V.cell? ⟨bx, 8, none⟩ = some (.slice q.ix.args.ad q.ix.args.len q.ix.args.cap))
  (first | assumption | exact (unhide HKM) _ ((Below.refl _ _).drew) | exact (unhide HKM) _ (Below.trans (And.left (by assumption)) ((unhide HB5).mono (Below.size (And.left (by assumption))))))
  (first
   | (go_at_call_of 43 (Value.agg #[.int .i64 q.ix.k, .int .i64 q.ix.a, .int .i64 q.ix.n, .string q.ix.nm, .slice q.ix.args.ad q.ix.args.len q.ix.args.cap]); refine ((unhide HC0) _ ?_).mono ?_; exact And.left (by assumption); rintro r w5 ⟨rfl, hb5⟩; have HB5 := hide hb5; clear hb5))
 all_goals
  go_wp2_with fail
  exact ⟨rfl, ⟨by rw [unhide HTL]; rfl, fun k hk => by rw [unhide HTL]; rcases (show k = 0 ∨ k = 1 ∨ k = 2 ∨ k = 3 ∨ k = 4 by omega) with rfl | rfl | rfl | rfl | rfl <;> rfl⟩, (by first | rfl | simp), (by first | rfl | simp), (by first | rfl | simp), (by first | rfl | simp), (And.left (by assumption))⟩
theorem cx_r20 {inn out e tt : ByteArray} {ga : Option Addr} {k ca : Nat} (hT : T.size = 162) (s1 : T[1]? = some (.string inn)) (s5 : T[5]? = some (.string out)) (s6 : T[6]? = some (.int .i64 (i : Nat))) (s7 : T[7]? = some (.pointer (some ⟨bx, 0, none⟩))) (s8 : T[8]? = some (.string e)) (s9 : T[9]? = some (.slice ga k ca)) (hbv : Tk.BV w bx q.cells) (hbx : bx < w.heap.size) (hz : out.size + (inn.size + q.nm.size + 3 + q.ot.size + 1 + tt.size + 3) ≤ 140737488355328) (hc : ∀ V, Below w.heap.size w V → Calls Tryz.prog 40 #[.slice ga k ca] V fun r w' => r = .returned (.string tt) ∧ Below V.heap.size V w')
  (hQ : ∀ T' w', (Fq.Kp 5 T T' ∧ T'[5]? = some (.string (out ++ ((((((inn ++ q.nm) ++ ⟨#[32, 61, 32]⟩) ++ q.ot) ++ ⟨#[40]⟩) ++ tt) ++ ⟨#[41, 59, 10]⟩))) ∧ T'[6]? = some (.int .i64 (i : Nat)) ∧ T'[7]? = some (.pointer (some ⟨bx, 0, none⟩)) ∧ T'[8]? = some (.string e) ∧ Below w.heap.size w w') → Q .normal ⟨T', []⟩ w') : (Fq.reg Tryz.f42 20).wp Tryz.prog Q ⟨T, []⟩ w := by
 have HQ := hide hQ
 clear hQ
 conv => arg 2; whnf
 refine Fq.norm (fun T' w' => Fq.Kp 5 T T' ∧ T'[5]? = some (.string (out ++ ((((((inn ++ q.nm) ++ ⟨#[32, 61, 32]⟩) ++ q.ot) ++ ⟨#[40]⟩) ++ tt) ++ ⟨#[41, 59, 10]⟩))) ∧ T'[6]? = some (.int .i64 (i : Nat)) ∧ T'[7]? = some (.pointer (some ⟨bx, 0, none⟩)) ∧ T'[8]? = some (.string e) ∧ Below w.heap.size w w') (fun T' w' h => (unhide HQ) T' w' h) ?_
 obtain ⟨t, ht⟩ : ∃ t : Nat → Value, t = fun i => T.getD i (.tuple #[]) := ⟨_, rfl⟩
 have hTl : T = #[t 0, t 1, t 2, t 3, t 4, t 5, t 6, t 7, t 8, t 9, t 10, t 11, t 12, t 13, t 14, t 15, t 16, t 17, t 18, t 19, t 20, t 21, t 22, t 23, t 24, t 25, t 26, t 27, t 28, t 29, t 30, t 31, t 32, t 33, t 34, t 35, t 36, t 37, t 38, t 39, t 40, t 41, t 42, t 43, t 44, t 45, t 46, t 47, t 48, t 49, t 50, t 51, t 52, t 53, t 54, t 55, t 56, t 57, t 58, t 59, t 60, t 61, t 62, t 63, t 64, t 65, t 66, t 67, t 68, t 69, t 70, t 71, t 72, t 73, t 74, t 75, t 76, t 77, t 78, t 79, t 80, t 81, t 82, t 83, t 84, t 85, t 86, t 87, t 88, t 89, t 90, t 91, t 92, t 93, t 94, t 95, t 96, t 97, t 98, t 99, t 100, t 101, t 102, t 103, t 104, t 105, t 106, t 107, t 108, t 109, t 110, t 111, t 112, t 113, t 114, t 115, t 116, t 117, t 118, t 119, t 120, t 121, t 122, t 123, t 124, t 125, t 126, t 127, t 128, t 129, t 130, t 131, t 132, t 133, t 134, t 135, t 136, t 137, t 138, t 139, t 140, t 141, t 142, t 143, t 144, t 145, t 146, t 147, t 148, t 149, t 150, t 151, t 152, t 153, t 154, t 155, t 156, t 157, t 158, t 159, t 160, t 161] := by rw [ht]; exact Fq.ls_is hT
 rw [(congrFun ht 1).trans (Fq.gd s1), (congrFun ht 5).trans (Fq.gd s5), (congrFun ht 6).trans (Fq.gd s6), (congrFun ht 7).trans (Fq.gd s7), (congrFun ht 8).trans (Fq.gd s8), (congrFun ht 9).trans (Fq.gd s9)] at hTl
 clear ht hT s1 s5 s6 s7 s8 s9
 refine Fq.fr hTl ?_
 have HTL := hide hTl
 clear hTl
 have HKM := hide (show ∀ V : World, Below w.heap.size w V → (Below w.heap.size w V ∧ V.cell? ⟨bx, 2, none⟩ = some (.string q.nm) ∧ V.cell? ⟨bx, 3, none⟩ = some (.string q.ot)) from fun V hV => ⟨hV, (hbv.below hV hbx) 2 _ rfl, (hbv.below hV hbx) 3 _ rfl⟩)
 have HC0 := hide hc
 clear hbv hbx hc
 have z0 : (⟨#[32, 61, 32]⟩ : ByteArray).size = 3 := rfl
 have z1 : (⟨#[40]⟩ : ByteArray).size = 1 := rfl
 have z2 : (⟨#[41, 59, 10]⟩ : ByteArray).size = 3 := rfl
 have f0 : ∀ W : World, (Op.stringOp .add inn q.nm).run Tryz.prog W = .ok (.string (inn ++ q.nm)) W := fun W => run_string_add_sum W _ _ (by omega)
 have f1 : ∀ W : World, (Op.stringOp .add (inn ++ q.nm) ⟨#[32, 61, 32]⟩).run Tryz.prog W = .ok (.string ((inn ++ q.nm) ++ ⟨#[32, 61, 32]⟩)) W := fun W => run_string_add_sum W _ _ (by simp only [ByteArray.size_append, z0]; omega)
 have f2 : ∀ W : World, (Op.stringOp .add ((inn ++ q.nm) ++ ⟨#[32, 61, 32]⟩) q.ot).run Tryz.prog W = .ok (.string (((inn ++ q.nm) ++ ⟨#[32, 61, 32]⟩) ++ q.ot)) W := fun W => run_string_add_sum W _ _ (by simp only [ByteArray.size_append, z0]; omega)
 have f3 : ∀ W : World, (Op.stringOp .add (((inn ++ q.nm) ++ ⟨#[32, 61, 32]⟩) ++ q.ot) ⟨#[40]⟩).run Tryz.prog W = .ok (.string ((((inn ++ q.nm) ++ ⟨#[32, 61, 32]⟩) ++ q.ot) ++ ⟨#[40]⟩)) W := fun W => run_string_add_sum W _ _ (by simp only [ByteArray.size_append, z0, z1]; omega)
 have f4 : ∀ W : World, (Op.stringOp .add ((((inn ++ q.nm) ++ ⟨#[32, 61, 32]⟩) ++ q.ot) ++ ⟨#[40]⟩) tt).run Tryz.prog W = .ok (.string (((((inn ++ q.nm) ++ ⟨#[32, 61, 32]⟩) ++ q.ot) ++ ⟨#[40]⟩) ++ tt)) W := fun W => run_string_add_sum W _ _ (by simp only [ByteArray.size_append, z0, z1]; omega)
 have f5 : ∀ W : World, (Op.stringOp .add (((((inn ++ q.nm) ++ ⟨#[32, 61, 32]⟩) ++ q.ot) ++ ⟨#[40]⟩) ++ tt) ⟨#[41, 59, 10]⟩).run Tryz.prog W = .ok (.string ((((((inn ++ q.nm) ++ ⟨#[32, 61, 32]⟩) ++ q.ot) ++ ⟨#[40]⟩) ++ tt) ++ ⟨#[41, 59, 10]⟩)) W := fun W => run_string_add_sum W _ _ (by simp only [ByteArray.size_append, z0, z1, z2]; omega)
 have f6 : ∀ W : World, (Op.stringOp .add out ((((((inn ++ q.nm) ++ ⟨#[32, 61, 32]⟩) ++ q.ot) ++ ⟨#[40]⟩) ++ tt) ++ ⟨#[41, 59, 10]⟩)).run Tryz.prog W = .ok (.string (out ++ ((((((inn ++ q.nm) ++ ⟨#[32, 61, 32]⟩) ++ q.ot) ++ ⟨#[40]⟩) ++ tt) ++ ⟨#[41, 59, 10]⟩))) W := fun W => run_string_add_sum W _ _ (by simp only [ByteArray.size_append, z0, z1, z2]; omega)
 clear hz z0 z1 z2
 go_region_held3 (fun V => Below w.heap.size w V ∧ V.cell? ⟨bx, 2, none⟩ = some (.string q.nm) ∧ V.cell? ⟨bx, 3, none⟩ = some (.string q.ot))
  (first | assumption | exact (unhide HKM) _ ((Below.refl _ _).drew) | exact (unhide HKM) _ (Below.trans (And.left (by assumption)) ((unhide HB5).mono (Below.size (And.left (by assumption))))))
  (first
   | (go_at_call_of 40 (Value.slice ga k ca); refine ((unhide HC0) _ ?_).mono ?_; exact And.left (by assumption); rintro r w5 ⟨rfl, hb5⟩; have HB5 := hide hb5; clear hb5))
 all_goals
  go_wp2_with fail
  exact ⟨rfl, ⟨by rw [unhide HTL]; rfl, fun k hk => by rw [unhide HTL]; rcases (show k = 0 ∨ k = 1 ∨ k = 2 ∨ k = 3 ∨ k = 4 by omega) with rfl | rfl | rfl | rfl | rfl <;> rfl⟩, (by first | rfl | simp), (by first | rfl | simp), (by first | rfl | simp), (by first | rfl | simp), (And.left (by assumption))⟩
end
end Go.Proofs.YtfccpddehpgfoaaGreatDoor
