/-
  SR8, SR9. By the verifier.
-/
import Derived.Test.YtfccpddehpgfoaaGreatDoorYF
import Derived.Deep.RegionHeld3
set_option maxRecDepth 100000
set_option maxHeartbeats 3200000
namespace Go.Proofs.YtfccpddehpgfoaaGreatDoor
open Go.RowKit
set_option linter.unusedVariables false
section
variable {T : Array Value} {w : World} {Q : Exit → Act → World → Prop} {q : Tk.F} {s : Tk.Sl} {bt bx i : Nat}
theorem tt_r1 (hT : T.size = 100)
  (hQ : ∀ T', (Fq.Kp 3 T T' ∧ T'[3]? = some (.string ⟨#[]⟩)) → Q .normal ⟨T', []⟩ (w)) : (Fq.reg Tryz.f18 1).wp Tryz.prog Q ⟨T, []⟩ w := by
 have hu : undef = Value.tuple #[] := rfl
 have HQ := hide hQ
 clear hQ
 conv => arg 2; whnf
 go_wp2_with fail
 exact (unhide HQ) _ ⟨(by (repeat (with_reducible refine Fq.Kp.set ?_ (by decide) _)); with_reducible exact Fq.Kp.refl _ _), Fq.set_at _ (by simp [hT]) _⟩
theorem tt_r2 (hT : T.size = 100)
  (hQ : ∀ T', (Fq.Kp 4 T T' ∧ T'[4]? = some (.int .i64 0)) → Q .normal ⟨T', []⟩ (w)) : (Fq.reg Tryz.f18 2).wp Tryz.prog Q ⟨T, []⟩ w := by
 have hu : undef = Value.tuple #[] := rfl
 have HQ := hide hQ
 clear hQ
 conv => arg 2; whnf
 go_wp2_with fail
 exact (unhide HQ) _ ⟨(by (repeat (with_reducible refine Fq.Kp.set ?_ (by decide) _)); with_reducible exact Fq.Kp.refl _ _), Fq.set_at _ (by simp [hT]) _⟩
theorem tt_r3 {VB : Bool} (hT : T.size = 100) (s1 : T[1]? = some (.pointer (some ⟨bt, 0, none⟩))) (s4 : T[4]? = some (.int .i64 (i : Nat))) (x0 : w.cell? ⟨bt, 0, none⟩ = some (.slice s.ad s.len s.cap)) (htl : s.len ≤ 35184372088832) (hVB : decide ((i : Int) < (s.len : Int)) = VB)
  (hQ : ∀ T', (Fq.Kp 8 T T' ∧ T'[12]? = some (.bool VB)) → Q .normal ⟨T', []⟩ (w)) : (Fq.reg Tryz.f18 3).wp Tryz.prog Q ⟨T, []⟩ w := by
 have a1 := fun h => Fq.el s1 h
 have d1 := Fq.gd s1
 have a4 := fun h => Fq.el s4 h
 have d4 := Fq.gd s4
 have hu : undef = Value.tuple #[] := rfl
 have HQ := hide hQ
 clear hQ
 conv => arg 2; whnf
 cases VB
 · have hlt : ¬ (i : Int) < (s.len : Int) := of_decide_eq_false hVB
   clear hVB
   go_wp2_with fail
   exact (unhide HQ) _ ⟨(by (repeat (with_reducible refine Fq.Kp.set ?_ (by decide) _)); with_reducible exact Fq.Kp.refl _ _), Fq.set_at _ (by simp [hT]) _⟩
 · have hlt : (i : Int) < (s.len : Int) := of_decide_eq_true hVB
   clear hVB
   go_wp2_with fail
   exact (unhide HQ) _ ⟨(by (repeat (with_reducible refine Fq.Kp.set ?_ (by decide) _)); with_reducible exact Fq.Kp.refl _ _), Fq.set_at _ (by simp [hT]) _⟩
theorem tt_r4 (hT : T.size = 100) (s4 : T[4]? = some (.int .i64 (i : Nat))) (htl : i < 35184372088832)
  (hQ : ∀ T', (Fq.Kp 4 T T' ∧ T'[4]? = some (.int .i64 ((i + 1 : Nat) : Int))) → Q .normal ⟨T', []⟩ (w)) : (Fq.reg Tryz.f18 4).wp Tryz.prog Q ⟨T, []⟩ w := by
 have a4 := fun h => Fq.el s4 h
 have d4 := Fq.gd s4
 have hu : undef = Value.tuple #[] := rfl
 have HQ := hide hQ
 clear hQ
 conv => arg 2; whnf
 have hc : ((i + 1 : Nat) : Int) = (i : Int) + 1 := by omega
 have hw0 : IntKind.i64.wrap ((i : Int) + 1) = (i : Int) + 1 := by rw [IntKind.wrap_i64]; omega
 rw [hc] at HQ
 go_wp2_with fail
 exact (unhide HQ) _ ⟨(by (repeat (with_reducible refine Fq.Kp.set ?_ (by decide) _)); with_reducible exact Fq.Kp.refl _ _), Fq.set_at _ (by simp [hT]) _⟩
theorem tt_r5 {b o : Nat} (hT : T.size = 100) (s1 : T[1]? = some (.pointer (some ⟨bt, 0, none⟩))) (s4 : T[4]? = some (.int .i64 (i : Nat))) (x0 : w.cell? ⟨bt, 0, none⟩ = some (.slice (some ⟨b, o, none⟩) s.len s.cap)) (hlt : i < s.len) (y0 : w.cell? ⟨b, o + i * 10, none⟩ = some (.int .i64 q.a)) (y1 : w.cell? ⟨b, o + i * 10 + 1, none⟩ = some (.string q.nm)) (y2 : w.cell? ⟨b, o + i * 10 + 2, none⟩ = some (.slice q.ps.ad q.ps.len q.ps.cap)) (y3 : w.cell? ⟨b, o + i * 10 + 3, none⟩ = some (.slice q.vs.ad q.vs.len q.vs.cap)) (y4 : w.cell? ⟨b, o + i * 10 + 4, none⟩ = some (.slice q.cs.ad q.cs.len q.cs.cap)) (y5 : w.cell? ⟨b, o + i * 10 + 5, none⟩ = some (.int .i64 q.re.k)) (y6 : w.cell? ⟨b, o + i * 10 + 6, none⟩ = some (.int .i64 q.re.a)) (y7 : w.cell? ⟨b, o + i * 10 + 7, none⟩ = some (.int .i64 q.re.n)) (y8 : w.cell? ⟨b, o + i * 10 + 8, none⟩ = some (.string q.re.nm)) (y9 : w.cell? ⟨b, o + i * 10 + 9, none⟩ = some (.slice q.re.args.ad q.re.args.len q.re.args.cap))
  (hQ : ∀ T', (Fq.Kp 5 T T' ∧ T'[5]? = some (.pointer (some ⟨w.heap.size, 0, none⟩))) → Q .normal ⟨T', []⟩ (w.alloc (Obj.cells q.cells 54))) : (Fq.reg Tryz.f18 5).wp Tryz.prog Q ⟨T, []⟩ w := by
 have a1 := fun h => Fq.el s1 h
 have d1 := Fq.gd s1
 have a4 := fun h => Fq.el s4 h
 have d4 := Fq.gd s4
 have hu : undef = Value.tuple #[] := rfl
 have HQ := hide hQ
 clear hQ
 conv => arg 2; whnf
 have hi0 : (0 : Int) ≤ (i : Int) := by omega
 have hi1 : (i : Int) < (s.len : Int) := by omega
 go_wp2_with fail
 exact (unhide HQ) _ ⟨(by (repeat (with_reducible refine Fq.Kp.set ?_ (by decide) _)); with_reducible exact Fq.Kp.refl _ _), Fq.set_at _ (by simp [hT]) _⟩
theorem tt_r6 {VB : Bool} (hT : T.size = 100) (s1 : T[1]? = some (.pointer (some ⟨bt, 0, none⟩))) (s4 : T[4]? = some (.int .i64 (i : Nat))) (x0 : w.cell? ⟨bt, 0, none⟩ = some (.slice s.ad s.len s.cap)) (htl : s.len ≤ 35184372088832) (hVB : VB = ((i : Int) == (s.len : Int) - 1))
  (hQ : ∀ T', (Fq.Kp 6 T T' ∧ T'[6]? = some (.bool VB)) → Q .normal ⟨T', []⟩ (w)) : (Fq.reg Tryz.f18 6).wp Tryz.prog Q ⟨T, []⟩ w := by
 have a1 := fun h => Fq.el s1 h
 have d1 := Fq.gd s1
 have a4 := fun h => Fq.el s4 h
 have d4 := Fq.gd s4
 have hu : undef = Value.tuple #[] := rfl
 have HQ := hide hQ
 clear hQ
 conv => arg 2; whnf
 have hw0 : IntKind.i64.wrap ((s.len : Int) - 1) = (s.len : Int) - 1 := by rw [IntKind.wrap_i64]; omega
 cases hR : ((i : Int) == (s.len : Int) - 1)
 · rw [hR] at hVB
   subst hVB
   go_wp2_with fail
   exact (unhide HQ) _ ⟨(by (repeat (with_reducible refine Fq.Kp.set ?_ (by decide) _)); with_reducible exact Fq.Kp.refl _ _), Fq.set_at _ (by simp [hT]) _⟩
 · rw [hR] at hVB
   subst hVB
   go_wp2_with fail
   exact (unhide HQ) _ ⟨(by (repeat (with_reducible refine Fq.Kp.set ?_ (by decide) _)); with_reducible exact Fq.Kp.refl _ _), Fq.set_at _ (by simp [hT]) _⟩
theorem tt_r7 {mn : Bool} (hT : T.size = 100) (s6 : T[6]? = some (.bool mn))
  (hQ : ∀ T', (Fq.Kp 8 T T' ∧ T'[26]? = some (.bool mn)) → Q .normal ⟨T', []⟩ (w)) : (Fq.reg Tryz.f18 7).wp Tryz.prog Q ⟨T, []⟩ w := by
 have a6 := fun h => Fq.el s6 h
 have d6 := Fq.gd s6
 have hu : undef = Value.tuple #[] := rfl
 have HQ := hide hQ
 clear hQ
 conv => arg 2; whnf
 go_wp2_with fail
 exact (unhide HQ) _ ⟨(by (repeat (with_reducible refine Fq.Kp.set ?_ (by decide) _)); with_reducible exact Fq.Kp.refl _ _), Fq.set_at _ (by simp [hT]) _⟩
theorem tt_r10 (hT : T.size = 100)
  (hQ : ∀ T', (Fq.Kp 7 T T' ∧ T'[7]? = some (.int .i64 0)) → Q .normal ⟨T', []⟩ (w)) : (Fq.reg Tryz.f18 10).wp Tryz.prog Q ⟨T, []⟩ w := by
 have hu : undef = Value.tuple #[] := rfl
 have HQ := hide hQ
 clear hQ
 conv => arg 2; whnf
 go_wp2_with fail
 exact (unhide HQ) _ ⟨(by (repeat (with_reducible refine Fq.Kp.set ?_ (by decide) _)); with_reducible exact Fq.Kp.refl _ _), Fq.set_at _ (by simp [hT]) _⟩
theorem tt_r11 {k : Nat} {VB : Bool} (hT : T.size = 100) (s5 : T[5]? = some (.pointer (some ⟨bx, 0, none⟩))) (s7 : T[7]? = some (.int .i64 (k : Nat))) (x3 : w.cell? ⟨bx, 3, none⟩ = some (.slice q.vs.ad q.vs.len q.vs.cap)) (hVB : decide (k < q.vs.len) = VB)
  (hQ : ∀ T', (Fq.Kp 8 T T' ∧ T'[44]? = some (.bool VB)) → Q .normal ⟨T', []⟩ (w)) : (Fq.reg Tryz.f18 11).wp Tryz.prog Q ⟨T, []⟩ w := by
 have a5 := fun h => Fq.el s5 h
 have d5 := Fq.gd s5
 have a7 := fun h => Fq.el s7 h
 have d7 := Fq.gd s7
 have hu : undef = Value.tuple #[] := rfl
 have HQ := hide hQ
 clear hQ
 conv => arg 2; whnf
 subst hVB
 go_wp2_with fail
 exact (unhide HQ) _ ⟨(by (repeat (with_reducible refine Fq.Kp.set ?_ (by decide) _)); with_reducible exact Fq.Kp.refl _ _), Fq.set_at _ (by simp [hT]) _⟩
theorem tt_r12 {k : Nat} (hT : T.size = 100) (s7 : T[7]? = some (.int .i64 (k : Nat))) (htl : k < 35184372088832)
  (hQ : ∀ T', (Fq.Kp 7 T T' ∧ T'[7]? = some (.int .i64 ((k + 1 : Nat) : Int))) → Q .normal ⟨T', []⟩ (w)) : (Fq.reg Tryz.f18 12).wp Tryz.prog Q ⟨T, []⟩ w := by
 have a7 := fun h => Fq.el s7 h
 have d7 := Fq.gd s7
 have hu : undef = Value.tuple #[] := rfl
 have HQ := hide hQ
 clear hQ
 conv => arg 2; whnf
 have hc : ((k + 1 : Nat) : Int) = (k : Int) + 1 := by omega
 have hw0 : IntKind.i64.wrap ((k : Int) + 1) = (k : Int) + 1 := by rw [IntKind.wrap_i64]; omega
 rw [hc] at HQ
 go_wp2_with fail
 exact (unhide HQ) _ ⟨(by (repeat (with_reducible refine Fq.Kp.set ?_ (by decide) _)); with_reducible exact Fq.Kp.refl _ _), Fq.set_at _ (by simp [hT]) _⟩
theorem tt_r13 {k bv ov : Nat} {vz : Int} {VB : Bool} (hT : T.size = 100) (s5 : T[5]? = some (.pointer (some ⟨bx, 0, none⟩))) (s7 : T[7]? = some (.int .i64 (k : Nat))) (x3 : w.cell? ⟨bx, 3, none⟩ = some (.slice (some ⟨bv, ov, none⟩) q.vs.len q.vs.cap)) (hk : k < q.vs.len) (y1 : w.cell? ⟨bv, ov + k * 2 + 1, none⟩ = some (.int .i64 vz)) (hVB : VB = (vz == 0))
  (hQ : ∀ T', (Fq.Kp 8 T T' ∧ T'[53]? = some (.bool VB)) → Q .normal ⟨T', []⟩ (w)) : (Fq.reg Tryz.f18 13).wp Tryz.prog Q ⟨T, []⟩ w := by
 have a5 := fun h => Fq.el s5 h
 have d5 := Fq.gd s5
 have a7 := fun h => Fq.el s7 h
 have d7 := Fq.gd s7
 have hu : undef = Value.tuple #[] := rfl
 have HQ := hide hQ
 clear hQ
 conv => arg 2; whnf
 have hk0 : (0 : Int) ≤ (k : Int) := by omega
 have hk1 : (k : Int) < (q.vs.len : Int) := by omega
 cases hR : (vz == 0)
 · rw [hR] at hVB
   subst hVB
   go_wp2_with fail
   exact (unhide HQ) _ ⟨(by (repeat (with_reducible refine Fq.Kp.set ?_ (by decide) _)); with_reducible exact Fq.Kp.refl _ _), Fq.set_at _ (by simp [hT]) _⟩
 · rw [hR] at hVB
   subst hVB
   go_wp2_with fail
   exact (unhide HQ) _ ⟨(by (repeat (with_reducible refine Fq.Kp.set ?_ (by decide) _)); with_reducible exact Fq.Kp.refl _ _), Fq.set_at _ (by simp [hT]) _⟩
theorem tt_r8 {out : ByteArray} {mn : Bool} (hT : T.size = 100) (s3 : T[3]? = some (.string out)) (s4 : T[4]? = some (.int .i64 (i : Nat))) (s5 : T[5]? = some (.pointer (some ⟨bx, 0, none⟩))) (s6 : T[6]? = some (.bool mn)) (hz : out.size + 7 ≤ 140737488355328)
  (hQ : ∀ T', (Fq.Kp 3 T T' ∧ T'[3]? = some (.string (out ++ ⟨#[109, 97, 105, 110, 32, 123, 10]⟩)) ∧ T'[4]? = some (.int .i64 (i : Nat)) ∧ T'[5]? = some (.pointer (some ⟨bx, 0, none⟩)) ∧ T'[6]? = some (.bool mn)) → Q .normal ⟨T', []⟩ (w)) : (Fq.reg Tryz.f18 8).wp Tryz.prog Q ⟨T, []⟩ w := by
 have a3 := fun h => Fq.el s3 h
 have d3 := Fq.gd s3
 have a4 := fun h => Fq.el s4 h
 have d4 := Fq.gd s4
 have a5 := fun h => Fq.el s5 h
 have d5 := Fq.gd s5
 have a6 := fun h => Fq.el s6 h
 have d6 := Fq.gd s6
 have hu : undef = Value.tuple #[] := rfl
 have HQ := hide hQ
 clear hQ
 conv => arg 2; whnf
 have z0 : (⟨#[109, 97, 105, 110, 32, 123, 10]⟩ : ByteArray).size = 7 := rfl
 have f0 : ∀ W : World, (Op.stringOp .add out ⟨#[109, 97, 105, 110, 32, 123, 10]⟩).run Tryz.prog W = .ok (.string (out ++ ⟨#[109, 97, 105, 110, 32, 123, 10]⟩)) W := fun W => run_string_add_sum W _ _ (by simp only [z0]; omega)
 clear hz z0
 go_wp2_with fail
 exact (unhide HQ) _ ⟨(by (repeat (with_reducible refine Fq.Kp.set ?_ (by decide) _)); with_reducible exact Fq.Kp.refl _ _), Fq.set_at _ (by simp [hT]) _, (by (repeat (with_reducible refine (Fq.set_ne _ (by decide) _).trans ?_)); exact s4), (by (repeat (with_reducible refine (Fq.set_ne _ (by decide) _).trans ?_)); exact s5), (by (repeat (with_reducible refine (Fq.set_ne _ (by decide) _).trans ?_)); exact s6)⟩
theorem tt_r19 {out : ByteArray} {mn : Bool} (hT : T.size = 100) (s3 : T[3]? = some (.string out)) (s4 : T[4]? = some (.int .i64 (i : Nat))) (s5 : T[5]? = some (.pointer (some ⟨bx, 0, none⟩))) (s6 : T[6]? = some (.bool mn)) (hz : out.size + 2 ≤ 140737488355328)
  (hQ : ∀ T', (Fq.Kp 3 T T' ∧ T'[3]? = some (.string (out ++ ⟨#[125, 10]⟩)) ∧ T'[4]? = some (.int .i64 (i : Nat)) ∧ T'[5]? = some (.pointer (some ⟨bx, 0, none⟩)) ∧ T'[6]? = some (.bool mn)) → Q .normal ⟨T', []⟩ (w)) : (Fq.reg Tryz.f18 19).wp Tryz.prog Q ⟨T, []⟩ w := by
 have a3 := fun h => Fq.el s3 h
 have d3 := Fq.gd s3
 have a4 := fun h => Fq.el s4 h
 have d4 := Fq.gd s4
 have a5 := fun h => Fq.el s5 h
 have d5 := Fq.gd s5
 have a6 := fun h => Fq.el s6 h
 have d6 := Fq.gd s6
 have hu : undef = Value.tuple #[] := rfl
 have HQ := hide hQ
 clear hQ
 conv => arg 2; whnf
 have z0 : (⟨#[125, 10]⟩ : ByteArray).size = 2 := rfl
 have f0 : ∀ W : World, (Op.stringOp .add out ⟨#[125, 10]⟩).run Tryz.prog W = .ok (.string (out ++ ⟨#[125, 10]⟩)) W := fun W => run_string_add_sum W _ _ (by simp only [z0]; omega)
 clear hz z0
 go_wp2_with fail
 exact (unhide HQ) _ ⟨(by (repeat (with_reducible refine Fq.Kp.set ?_ (by decide) _)); with_reducible exact Fq.Kp.refl _ _), Fq.set_at _ (by simp [hT]) _, (by (repeat (with_reducible refine (Fq.set_ne _ (by decide) _).trans ?_)); exact s4), (by (repeat (with_reducible refine (Fq.set_ne _ (by decide) _).trans ?_)); exact s5), (by (repeat (with_reducible refine (Fq.set_ne _ (by decide) _).trans ?_)); exact s6)⟩
theorem tt_r14 {out : ByteArray} {mn : Bool} {vn : ByteArray} {k bv ov : Nat} (hT : T.size = 100) (s3 : T[3]? = some (.string out)) (s4 : T[4]? = some (.int .i64 (i : Nat))) (s5 : T[5]? = some (.pointer (some ⟨bx, 0, none⟩))) (s6 : T[6]? = some (.bool mn)) (s7 : T[7]? = some (.int .i64 (k : Nat))) (x3 : w.cell? ⟨bx, 3, none⟩ = some (.slice (some ⟨bv, ov, none⟩) q.vs.len q.vs.cap)) (hk : k < q.vs.len) (y0 : w.cell? ⟨bv, ov + k * 2, none⟩ = some (.string vn)) (hz : out.size + (6 + vn.size + 2) ≤ 140737488355328)
  (hQ : ∀ T', (Fq.Kp 3 T T' ∧ T'[3]? = some (.string (out ++ ((⟨#[32, 32, 118, 97, 114, 32]⟩ ++ vn) ++ ⟨#[59, 10]⟩))) ∧ T'[4]? = some (.int .i64 (i : Nat)) ∧ T'[5]? = some (.pointer (some ⟨bx, 0, none⟩)) ∧ T'[6]? = some (.bool mn) ∧ T'[7]? = some (.int .i64 (k : Nat))) → Q .normal ⟨T', []⟩ (w)) : (Fq.reg Tryz.f18 14).wp Tryz.prog Q ⟨T, []⟩ w := by
 have a3 := fun h => Fq.el s3 h
 have d3 := Fq.gd s3
 have a4 := fun h => Fq.el s4 h
 have d4 := Fq.gd s4
 have a5 := fun h => Fq.el s5 h
 have d5 := Fq.gd s5
 have a6 := fun h => Fq.el s6 h
 have d6 := Fq.gd s6
 have a7 := fun h => Fq.el s7 h
 have d7 := Fq.gd s7
 have hu : undef = Value.tuple #[] := rfl
 have HQ := hide hQ
 clear hQ
 conv => arg 2; whnf
 have hk0 : (0 : Int) ≤ (k : Int) := by omega
 have hk1 : (k : Int) < (q.vs.len : Int) := by omega
 have z0 : (⟨#[32, 32, 118, 97, 114, 32]⟩ : ByteArray).size = 6 := rfl
 have z1 : (⟨#[59, 10]⟩ : ByteArray).size = 2 := rfl
 have f0 : ∀ W : World, (Op.stringOp .add ⟨#[32, 32, 118, 97, 114, 32]⟩ vn).run Tryz.prog W = .ok (.string (⟨#[32, 32, 118, 97, 114, 32]⟩ ++ vn)) W := fun W => run_string_add_sum W _ _ (by simp only [z0]; omega)
 have f1 : ∀ W : World, (Op.stringOp .add (⟨#[32, 32, 118, 97, 114, 32]⟩ ++ vn) ⟨#[59, 10]⟩).run Tryz.prog W = .ok (.string ((⟨#[32, 32, 118, 97, 114, 32]⟩ ++ vn) ++ ⟨#[59, 10]⟩)) W := fun W => run_string_add_sum W _ _ (by simp only [ByteArray.size_append, z0, z1]; omega)
 have f2 : ∀ W : World, (Op.stringOp .add out ((⟨#[32, 32, 118, 97, 114, 32]⟩ ++ vn) ++ ⟨#[59, 10]⟩)).run Tryz.prog W = .ok (.string (out ++ ((⟨#[32, 32, 118, 97, 114, 32]⟩ ++ vn) ++ ⟨#[59, 10]⟩))) W := fun W => run_string_add_sum W _ _ (by simp only [ByteArray.size_append, z0, z1]; omega)
 clear hz z0 z1
 go_wp2_with fail
 exact (unhide HQ) _ ⟨(by (repeat (with_reducible refine Fq.Kp.set ?_ (by decide) _)); with_reducible exact Fq.Kp.refl _ _), Fq.set_at _ (by simp [hT]) _, (by (repeat (with_reducible refine (Fq.set_ne _ (by decide) _).trans ?_)); exact s4), (by (repeat (with_reducible refine (Fq.set_ne _ (by decide) _).trans ?_)); exact s5), (by (repeat (with_reducible refine (Fq.set_ne _ (by decide) _).trans ?_)); exact s6), (by (repeat (with_reducible refine (Fq.set_ne _ (by decide) _).trans ?_)); exact s7)⟩
theorem tt_r16 {out : ByteArray} {mn : Bool} {tt : ByteArray} (hT : T.size = 100) (s3 : T[3]? = some (.string out)) (s4 : T[4]? = some (.int .i64 (i : Nat))) (s5 : T[5]? = some (.pointer (some ⟨bx, 0, none⟩))) (s6 : T[6]? = some (.bool mn)) (x4 : w.cell? ⟨bx, 4, none⟩ = some (.slice q.cs.ad q.cs.len q.cs.cap)) (hz : out.size + tt.size ≤ 140737488355328) (hc : Calls Tryz.prog 42 #[.slice q.cs.ad q.cs.len q.cs.cap, .string ⟨#[32, 32]⟩] w fun r w' => r = .returned (.string tt) ∧ Below w.heap.size w w')
  (hQ : ∀ T' w', (Fq.Kp 3 T T' ∧ T'[3]? = some (.string (out ++ tt)) ∧ T'[4]? = some (.int .i64 (i : Nat)) ∧ T'[5]? = some (.pointer (some ⟨bx, 0, none⟩)) ∧ T'[6]? = some (.bool mn) ∧ Below w.heap.size w w') → Q .normal ⟨T', []⟩ w') : (Fq.reg Tryz.f18 16).wp Tryz.prog Q ⟨T, []⟩ w := by
 have a3 := fun h => Fq.el s3 h
 have d3 := Fq.gd s3
 have a4 := fun h => Fq.el s4 h
 have d4 := Fq.gd s4
 have a5 := fun h => Fq.el s5 h
 have d5 := Fq.gd s5
 have a6 := fun h => Fq.el s6 h
 have d6 := Fq.gd s6
 have hu : undef = Value.tuple #[] := rfl
 have HQ := hide hQ
 clear hQ
 conv => arg 2; whnf
 have HC := hide hc
 clear hc
 have f0 : ∀ W : World, (Op.stringOp .add out tt).run Tryz.prog W = .ok (.string (out ++ tt)) W := fun W => run_string_add_sum W _ _ (by omega)
 clear hz
 go_wp2_with (with_reducible refine (Calls.mono (unhide HC) ?_); rintro r w2 ⟨rfl, hb2⟩; have HB := hide hb2; clear hb2)
 exact (unhide HQ) _ _ ⟨(by (repeat (with_reducible refine Fq.Kp.set ?_ (by decide) _)); with_reducible exact Fq.Kp.refl _ _), Fq.set_at _ (by simp [hT]) _, (by (repeat (with_reducible refine (Fq.set_ne _ (by decide) _).trans ?_)); exact s4), (by (repeat (with_reducible refine (Fq.set_ne _ (by decide) _).trans ?_)); exact s5), (by (repeat (with_reducible refine (Fq.set_ne _ (by decide) _).trans ?_)); exact s6), unhide HB⟩
theorem tt_r17 {mn : Bool} (hT : T.size = 100) (s6 : T[6]? = some (.bool mn))
  (hQ : ∀ T', (Fq.Kp 8 T T' ∧ T'[89]? = some (.bool (!mn))) → Q .normal ⟨T', []⟩ (w)) : (Fq.reg Tryz.f18 17).wp Tryz.prog Q ⟨T, []⟩ w := by
 have a6 := fun h => Fq.el s6 h
 have d6 := Fq.gd s6
 have hu : undef = Value.tuple #[] := rfl
 have HQ := hide hQ
 clear hQ
 conv => arg 2; whnf
 go_wp2_with fail
 exact (unhide HQ) _ ⟨(by (repeat (with_reducible refine Fq.Kp.set ?_ (by decide) _)); with_reducible exact Fq.Kp.refl _ _), Fq.set_at _ (by simp [hT]) _⟩
theorem tt_r18 {out : ByteArray} {mn : Bool} {tt : ByteArray} (hT : T.size = 100) (s3 : T[3]? = some (.string out)) (s4 : T[4]? = some (.int .i64 (i : Nat))) (s5 : T[5]? = some (.pointer (some ⟨bx, 0, none⟩))) (s6 : T[6]? = some (.bool mn)) (x5 : w.cell? ⟨bx, 5, none⟩ = some (.int .i64 q.re.k)) (x6 : w.cell? ⟨bx, 6, none⟩ = some (.int .i64 q.re.a)) (x7 : w.cell? ⟨bx, 7, none⟩ = some (.int .i64 q.re.n)) (x8 : w.cell? ⟨bx, 8, none⟩ = some (.string q.re.nm)) (x9 : w.cell? ⟨bx, 9, none⟩ = some (.slice q.re.args.ad q.re.args.len q.re.args.cap)) (hz : out.size + (9 + tt.size + 2) ≤ 140737488355328) (hc : Calls Tryz.prog 43 #[.agg #[.int .i64 q.re.k, .int .i64 q.re.a, .int .i64 q.re.n, .string q.re.nm, .slice q.re.args.ad q.re.args.len q.re.args.cap]] w fun r w' => r = .returned (.string tt) ∧ Below w.heap.size w w')
  (hQ : ∀ T' w', (Fq.Kp 3 T T' ∧ T'[3]? = some (.string (out ++ ((⟨#[32, 32, 114, 101, 116, 117, 114, 110, 32]⟩ ++ tt) ++ ⟨#[59, 10]⟩))) ∧ T'[4]? = some (.int .i64 (i : Nat)) ∧ T'[5]? = some (.pointer (some ⟨bx, 0, none⟩)) ∧ T'[6]? = some (.bool mn) ∧ Below w.heap.size w w') → Q .normal ⟨T', []⟩ w') : (Fq.reg Tryz.f18 18).wp Tryz.prog Q ⟨T, []⟩ w := by
 have a3 := fun h => Fq.el s3 h
 have d3 := Fq.gd s3
 have a4 := fun h => Fq.el s4 h
 have d4 := Fq.gd s4
 have a5 := fun h => Fq.el s5 h
 have d5 := Fq.gd s5
 have a6 := fun h => Fq.el s6 h
 have d6 := Fq.gd s6
 have hu : undef = Value.tuple #[] := rfl
 have HQ := hide hQ
 clear hQ
 conv => arg 2; whnf
 have HC := hide hc
 clear hc
 have z0 : (⟨#[32, 32, 114, 101, 116, 117, 114, 110, 32]⟩ : ByteArray).size = 9 := rfl
 have z1 : (⟨#[59, 10]⟩ : ByteArray).size = 2 := rfl
 have f0 : ∀ W : World, (Op.stringOp .add ⟨#[32, 32, 114, 101, 116, 117, 114, 110, 32]⟩ tt).run Tryz.prog W = .ok (.string (⟨#[32, 32, 114, 101, 116, 117, 114, 110, 32]⟩ ++ tt)) W := fun W => run_string_add_sum W _ _ (by simp only [z0]; omega)
 have f1 : ∀ W : World, (Op.stringOp .add (⟨#[32, 32, 114, 101, 116, 117, 114, 110, 32]⟩ ++ tt) ⟨#[59, 10]⟩).run Tryz.prog W = .ok (.string ((⟨#[32, 32, 114, 101, 116, 117, 114, 110, 32]⟩ ++ tt) ++ ⟨#[59, 10]⟩)) W := fun W => run_string_add_sum W _ _ (by simp only [ByteArray.size_append, z0, z1]; omega)
 have f2 : ∀ W : World, (Op.stringOp .add out ((⟨#[32, 32, 114, 101, 116, 117, 114, 110, 32]⟩ ++ tt) ++ ⟨#[59, 10]⟩)).run Tryz.prog W = .ok (.string (out ++ ((⟨#[32, 32, 114, 101, 116, 117, 114, 110, 32]⟩ ++ tt) ++ ⟨#[59, 10]⟩))) W := fun W => run_string_add_sum W _ _ (by simp only [ByteArray.size_append, z0, z1]; omega)
 clear hz z0 z1
 go_wp2_with (with_reducible refine (Calls.mono (unhide HC) ?_); rintro r w2 ⟨rfl, hb2⟩; have HB := hide hb2; clear hb2)
 exact (unhide HQ) _ _ ⟨(by (repeat (with_reducible refine Fq.Kp.set ?_ (by decide) _)); with_reducible exact Fq.Kp.refl _ _), Fq.set_at _ (by simp [hT]) _, (by (repeat (with_reducible refine (Fq.set_ne _ (by decide) _).trans ?_)); exact s4), (by (repeat (with_reducible refine (Fq.set_ne _ (by decide) _).trans ?_)); exact s5), (by (repeat (with_reducible refine (Fq.set_ne _ (by decide) _).trans ?_)); exact s6), unhide HB⟩
theorem tt_r20 {out : ByteArray} (hT : T.size = 100) (s3 : T[3]? = some (.string out))
  (hQ : ∀ T', (Fq.Kp 2 T T' ∧ T'[2]? = some (.string out)) → Q .normal ⟨T', []⟩ (w)) : (Fq.reg Tryz.f18 20).wp Tryz.prog Q ⟨T, []⟩ w := by
 have a3 := fun h => Fq.el s3 h
 have d3 := Fq.gd s3
 have hu : undef = Value.tuple #[] := rfl
 have HQ := hide hQ
 clear hQ
 conv => arg 2; whnf
 go_wp2_with fail
 exact (unhide HQ) _ ⟨(by (repeat (with_reducible refine Fq.Kp.set ?_ (by decide) _)); with_reducible exact Fq.Kp.refl _ _), Fq.set_at _ (by simp [hT]) _⟩
theorem tt_r9 {out : ByteArray} {mn : Bool} {tt : ByteArray} (hT : T.size = 100) (s3 : T[3]? = some (.string out)) (s4 : T[4]? = some (.int .i64 (i : Nat))) (s5 : T[5]? = some (.pointer (some ⟨bx, 0, none⟩))) (s6 : T[6]? = some (.bool mn)) (hkm : ∀ V, Below w.heap.size w V → V.cell? ⟨bx, 1, none⟩ = some (.string q.nm) ∧ V.cell? ⟨bx, 2, none⟩ = some (.slice q.ps.ad q.ps.len q.ps.cap)) (hz : out.size + (5 + q.nm.size + 1 + tt.size + 4) ≤ 140737488355328) (hc : ∀ V, Below w.heap.size w V → Calls Tryz.prog 40 #[.slice q.ps.ad q.ps.len q.ps.cap] V fun r w' => r = .returned (.string tt) ∧ Below V.heap.size V w')
  (hQ : ∀ T' w', (Fq.Kp 3 T T' ∧ T'[3]? = some (.string (out ++ ((((⟨#[102, 117, 110, 99, 32]⟩ ++ q.nm) ++ ⟨#[40]⟩) ++ tt) ++ ⟨#[41, 32, 123, 10]⟩))) ∧ T'[4]? = some (.int .i64 (i : Nat)) ∧ T'[5]? = some (.pointer (some ⟨bx, 0, none⟩)) ∧ T'[6]? = some (.bool mn) ∧ Below w.heap.size w w') → Q .normal ⟨T', []⟩ w') : (Fq.reg Tryz.f18 9).wp Tryz.prog Q ⟨T, []⟩ w := by
 have HQ := hide hQ
 clear hQ
 conv => arg 2; whnf
 refine Fq.norm (fun T' w' => Fq.Kp 3 T T' ∧ T'[3]? = some (.string (out ++ ((((⟨#[102, 117, 110, 99, 32]⟩ ++ q.nm) ++ ⟨#[40]⟩) ++ tt) ++ ⟨#[41, 32, 123, 10]⟩))) ∧ T'[4]? = some (.int .i64 (i : Nat)) ∧ T'[5]? = some (.pointer (some ⟨bx, 0, none⟩)) ∧ T'[6]? = some (.bool mn) ∧ Below w.heap.size w w') (fun T' w' h => (unhide HQ) T' w' h) ?_
 obtain ⟨t, ht⟩ : ∃ t : Nat → Value, t = fun i => T.getD i (.tuple #[]) := ⟨_, rfl⟩
 have hTl : T = #[t 0, t 1, t 2, t 3, t 4, t 5, t 6, t 7, t 8, t 9, t 10, t 11, t 12, t 13, t 14, t 15, t 16, t 17, t 18, t 19, t 20, t 21, t 22, t 23, t 24, t 25, t 26, t 27, t 28, t 29, t 30, t 31, t 32, t 33, t 34, t 35, t 36, t 37, t 38, t 39, t 40, t 41, t 42, t 43, t 44, t 45, t 46, t 47, t 48, t 49, t 50, t 51, t 52, t 53, t 54, t 55, t 56, t 57, t 58, t 59, t 60, t 61, t 62, t 63, t 64, t 65, t 66, t 67, t 68, t 69, t 70, t 71, t 72, t 73, t 74, t 75, t 76, t 77, t 78, t 79, t 80, t 81, t 82, t 83, t 84, t 85, t 86, t 87, t 88, t 89, t 90, t 91, t 92, t 93, t 94, t 95, t 96, t 97, t 98, t 99] := by rw [ht]; exact Fq.ls_is hT
 rw [(congrFun ht 3).trans (Fq.gd s3), (congrFun ht 4).trans (Fq.gd s4), (congrFun ht 5).trans (Fq.gd s5), (congrFun ht 6).trans (Fq.gd s6)] at hTl
 clear ht hT s3 s4 s5 s6
 refine Fq.fr hTl ?_
 have HTL := hide hTl
 clear hTl
 have HKM := hide (show ∀ V : World, Below w.heap.size w V → (Below w.heap.size w V ∧ V.cell? ⟨bx, 1, none⟩ = some (.string q.nm) ∧ V.cell? ⟨bx, 2, none⟩ = some (.slice q.ps.ad q.ps.len q.ps.cap)) from fun V hV => ⟨hV, hkm V hV⟩)
 have HC0 := hide hc
 clear hkm hc
 have z0 : (⟨#[102, 117, 110, 99, 32]⟩ : ByteArray).size = 5 := rfl
 have z1 : (⟨#[40]⟩ : ByteArray).size = 1 := rfl
 have z2 : (⟨#[41, 32, 123, 10]⟩ : ByteArray).size = 4 := rfl
 have f0 : ∀ W : World, (Op.stringOp .add ⟨#[102, 117, 110, 99, 32]⟩ q.nm).run Tryz.prog W = .ok (.string (⟨#[102, 117, 110, 99, 32]⟩ ++ q.nm)) W := fun W => run_string_add_sum W _ _ (by simp only [z0]; omega)
 have f1 : ∀ W : World, (Op.stringOp .add (⟨#[102, 117, 110, 99, 32]⟩ ++ q.nm) ⟨#[40]⟩).run Tryz.prog W = .ok (.string ((⟨#[102, 117, 110, 99, 32]⟩ ++ q.nm) ++ ⟨#[40]⟩)) W := fun W => run_string_add_sum W _ _ (by simp only [ByteArray.size_append, z0, z1]; omega)
 have f2 : ∀ W : World, (Op.stringOp .add ((⟨#[102, 117, 110, 99, 32]⟩ ++ q.nm) ++ ⟨#[40]⟩) tt).run Tryz.prog W = .ok (.string (((⟨#[102, 117, 110, 99, 32]⟩ ++ q.nm) ++ ⟨#[40]⟩) ++ tt)) W := fun W => run_string_add_sum W _ _ (by simp only [ByteArray.size_append, z0, z1]; omega)
 have f3 : ∀ W : World, (Op.stringOp .add (((⟨#[102, 117, 110, 99, 32]⟩ ++ q.nm) ++ ⟨#[40]⟩) ++ tt) ⟨#[41, 32, 123, 10]⟩).run Tryz.prog W = .ok (.string ((((⟨#[102, 117, 110, 99, 32]⟩ ++ q.nm) ++ ⟨#[40]⟩) ++ tt) ++ ⟨#[41, 32, 123, 10]⟩)) W := fun W => run_string_add_sum W _ _ (by simp only [ByteArray.size_append, z0, z1, z2]; omega)
 have f4 : ∀ W : World, (Op.stringOp .add out ((((⟨#[102, 117, 110, 99, 32]⟩ ++ q.nm) ++ ⟨#[40]⟩) ++ tt) ++ ⟨#[41, 32, 123, 10]⟩)).run Tryz.prog W = .ok (.string (out ++ ((((⟨#[102, 117, 110, 99, 32]⟩ ++ q.nm) ++ ⟨#[40]⟩) ++ tt) ++ ⟨#[41, 32, 123, 10]⟩))) W := fun W => run_string_add_sum W _ _ (by simp only [ByteArray.size_append, z0, z1, z2]; omega)
 clear hz z0 z1 z2
 go_region_held3 (fun V => Below w.heap.size w V ∧ V.cell? ⟨bx, 1, none⟩ = some (.string q.nm) ∧ V.cell? ⟨bx, 2, none⟩ = some (.slice q.ps.ad q.ps.len q.ps.cap))
  (first | assumption | exact (unhide HKM) _ ((Below.refl _ _).drew) | exact (unhide HKM) _ (Below.trans (And.left (by assumption)) ((unhide HB5).mono (Below.size (And.left (by assumption))))))
  (first
   | (go_at_call_of 40 (Value.slice q.ps.ad q.ps.len q.ps.cap); refine ((unhide HC0) _ ?_).mono ?_; exact And.left (by assumption); rintro r w5 ⟨rfl, hb5⟩; have HB5 := hide hb5; clear hb5))
 all_goals
  go_wp2_with fail
  exact ⟨rfl, ⟨by rw [unhide HTL]; rfl, fun k hk => by rw [unhide HTL]; rcases (show k = 0 ∨ k = 1 ∨ k = 2 by omega) with rfl | rfl | rfl <;> rfl⟩, (by first | rfl | simp), (by first | rfl | simp), (by first | rfl | simp), (by first | rfl | simp), (And.left (by assumption))⟩
theorem tt_r15 {out : ByteArray} {mn : Bool} {vn tt : ByteArray} {k bv ov : Nat} {vz : Int} (hT : T.size = 100) (s3 : T[3]? = some (.string out)) (s4 : T[4]? = some (.int .i64 (i : Nat))) (s5 : T[5]? = some (.pointer (some ⟨bx, 0, none⟩))) (s6 : T[6]? = some (.bool mn)) (s7 : T[7]? = some (.int .i64 (k : Nat))) (hk : k < q.vs.len) (hkm : ∀ V, Below w.heap.size w V → V.cell? ⟨bx, 3, none⟩ = some (.slice (some ⟨bv, ov, none⟩) q.vs.len q.vs.cap) ∧ V.cell? ⟨bv, ov + k * 2, none⟩ = some (.string vn) ∧ V.cell? ⟨bv, ov + k * 2 + 1, none⟩ = some (.int .i64 vz)) (hz : out.size + (6 + vn.size + 1 + tt.size + 2) ≤ 140737488355328) (hc : ∀ V, Below w.heap.size w V → Calls Tryz.prog 41 #[.int .i64 vz] V fun r w' => r = .returned (.string tt) ∧ Below V.heap.size V w')
  (hQ : ∀ T' w', (Fq.Kp 3 T T' ∧ T'[3]? = some (.string (out ++ ((((⟨#[32, 32, 97, 114, 114, 32]⟩ ++ vn) ++ ⟨#[32]⟩) ++ tt) ++ ⟨#[59, 10]⟩))) ∧ T'[4]? = some (.int .i64 (i : Nat)) ∧ T'[5]? = some (.pointer (some ⟨bx, 0, none⟩)) ∧ T'[6]? = some (.bool mn) ∧ T'[7]? = some (.int .i64 (k : Nat)) ∧ Below w.heap.size w w') → Q .normal ⟨T', []⟩ w') : (Fq.reg Tryz.f18 15).wp Tryz.prog Q ⟨T, []⟩ w := by
 have HQ := hide hQ
 clear hQ
 conv => arg 2; whnf
 refine Fq.norm (fun T' w' => Fq.Kp 3 T T' ∧ T'[3]? = some (.string (out ++ ((((⟨#[32, 32, 97, 114, 114, 32]⟩ ++ vn) ++ ⟨#[32]⟩) ++ tt) ++ ⟨#[59, 10]⟩))) ∧ T'[4]? = some (.int .i64 (i : Nat)) ∧ T'[5]? = some (.pointer (some ⟨bx, 0, none⟩)) ∧ T'[6]? = some (.bool mn) ∧ T'[7]? = some (.int .i64 (k : Nat)) ∧ Below w.heap.size w w') (fun T' w' h => (unhide HQ) T' w' h) ?_
 obtain ⟨t, ht⟩ : ∃ t : Nat → Value, t = fun i => T.getD i (.tuple #[]) := ⟨_, rfl⟩
 have hTl : T = #[t 0, t 1, t 2, t 3, t 4, t 5, t 6, t 7, t 8, t 9, t 10, t 11, t 12, t 13, t 14, t 15, t 16, t 17, t 18, t 19, t 20, t 21, t 22, t 23, t 24, t 25, t 26, t 27, t 28, t 29, t 30, t 31, t 32, t 33, t 34, t 35, t 36, t 37, t 38, t 39, t 40, t 41, t 42, t 43, t 44, t 45, t 46, t 47, t 48, t 49, t 50, t 51, t 52, t 53, t 54, t 55, t 56, t 57, t 58, t 59, t 60, t 61, t 62, t 63, t 64, t 65, t 66, t 67, t 68, t 69, t 70, t 71, t 72, t 73, t 74, t 75, t 76, t 77, t 78, t 79, t 80, t 81, t 82, t 83, t 84, t 85, t 86, t 87, t 88, t 89, t 90, t 91, t 92, t 93, t 94, t 95, t 96, t 97, t 98, t 99] := by rw [ht]; exact Fq.ls_is hT
 rw [(congrFun ht 3).trans (Fq.gd s3), (congrFun ht 4).trans (Fq.gd s4), (congrFun ht 5).trans (Fq.gd s5), (congrFun ht 6).trans (Fq.gd s6), (congrFun ht 7).trans (Fq.gd s7)] at hTl
 clear ht hT s3 s4 s5 s6 s7
 refine Fq.fr hTl ?_
 have HTL := hide hTl
 clear hTl
 have hk0 : (0 : Int) ≤ (k : Int) := by omega
 have hk1 : (k : Int) < (q.vs.len : Int) := by omega
 have HKM := hide (show ∀ V : World, Below w.heap.size w V → (Below w.heap.size w V ∧ V.cell? ⟨bx, 3, none⟩ = some (.slice (some ⟨bv, ov, none⟩) q.vs.len q.vs.cap) ∧ V.cell? ⟨bv, ov + k * 2, none⟩ = some (.string vn) ∧ V.cell? ⟨bv, ov + k * 2 + 1, none⟩ = some (.int .i64 vz)) from fun V hV => ⟨hV, hkm V hV⟩)
 have HC0 := hide hc
 clear hkm hc
 have z0 : (⟨#[32, 32, 97, 114, 114, 32]⟩ : ByteArray).size = 6 := rfl
 have z1 : (⟨#[32]⟩ : ByteArray).size = 1 := rfl
 have z2 : (⟨#[59, 10]⟩ : ByteArray).size = 2 := rfl
 have f0 : ∀ W : World, (Op.stringOp .add ⟨#[32, 32, 97, 114, 114, 32]⟩ vn).run Tryz.prog W = .ok (.string (⟨#[32, 32, 97, 114, 114, 32]⟩ ++ vn)) W := fun W => run_string_add_sum W _ _ (by simp only [z0]; omega)
 have f1 : ∀ W : World, (Op.stringOp .add (⟨#[32, 32, 97, 114, 114, 32]⟩ ++ vn) ⟨#[32]⟩).run Tryz.prog W = .ok (.string ((⟨#[32, 32, 97, 114, 114, 32]⟩ ++ vn) ++ ⟨#[32]⟩)) W := fun W => run_string_add_sum W _ _ (by simp only [ByteArray.size_append, z0, z1]; omega)
 have f2 : ∀ W : World, (Op.stringOp .add ((⟨#[32, 32, 97, 114, 114, 32]⟩ ++ vn) ++ ⟨#[32]⟩) tt).run Tryz.prog W = .ok (.string (((⟨#[32, 32, 97, 114, 114, 32]⟩ ++ vn) ++ ⟨#[32]⟩) ++ tt)) W := fun W => run_string_add_sum W _ _ (by simp only [ByteArray.size_append, z0, z1]; omega)
 have f3 : ∀ W : World, (Op.stringOp .add (((⟨#[32, 32, 97, 114, 114, 32]⟩ ++ vn) ++ ⟨#[32]⟩) ++ tt) ⟨#[59, 10]⟩).run Tryz.prog W = .ok (.string ((((⟨#[32, 32, 97, 114, 114, 32]⟩ ++ vn) ++ ⟨#[32]⟩) ++ tt) ++ ⟨#[59, 10]⟩)) W := fun W => run_string_add_sum W _ _ (by simp only [ByteArray.size_append, z0, z1, z2]; omega)
 have f4 : ∀ W : World, (Op.stringOp .add out ((((⟨#[32, 32, 97, 114, 114, 32]⟩ ++ vn) ++ ⟨#[32]⟩) ++ tt) ++ ⟨#[59, 10]⟩)).run Tryz.prog W = .ok (.string (out ++ ((((⟨#[32, 32, 97, 114, 114, 32]⟩ ++ vn) ++ ⟨#[32]⟩) ++ tt) ++ ⟨#[59, 10]⟩))) W := fun W => run_string_add_sum W _ _ (by simp only [ByteArray.size_append, z0, z1, z2]; omega)
 clear hz z0 z1 z2
 go_region_held3 (fun V => Below w.heap.size w V ∧ V.cell? ⟨bx, 3, none⟩ = some (.slice (some ⟨bv, ov, none⟩) q.vs.len q.vs.cap) ∧ V.cell? ⟨bv, ov + k * 2, none⟩ = some (.string vn) ∧ V.cell? ⟨bv, ov + k * 2 + 1, none⟩ = some (.int .i64 vz))
  (first | assumption | exact (unhide HKM) _ ((Below.refl _ _).drew) | exact (unhide HKM) _ (Below.trans (And.left (by assumption)) ((unhide HB5).mono (Below.size (And.left (by assumption))))))
  (first
   | (go_at_call_of 41 (Value.int .i64 vz); refine ((unhide HC0) _ ?_).mono ?_; exact And.left (by assumption); rintro r w5 ⟨rfl, hb5⟩; have HB5 := hide hb5; clear hb5))
 all_goals
  go_wp2_with fail
  exact ⟨rfl, ⟨by rw [unhide HTL]; rfl, fun k hk => by rw [unhide HTL]; rcases (show k = 0 ∨ k = 1 ∨ k = 2 by omega) with rfl | rfl | rfl <;> rfl⟩, (by first | rfl | simp), (by first | rfl | simp), (by first | rfl | simp), (by first | rfl | simp), (by first | rfl | simp), (And.left (by assumption))⟩
end
end Go.Proofs.YtfccpddehpgfoaaGreatDoor
namespace Go.Proofs.YtfccpddehpgfoaaGreatDoor
open Go.RowKit
set_option linter.unusedVariables false
section
variable {T : Array Value} {w : World} {Q : Exit → Act → World → Prop} {s : Tk.Sl}
theorem tt_r0 (hT : T.size = 100) (s0 : T[0]? = some (.agg #[.slice s.ad s.len s.cap]))
  (hQ : ∀ T', (Fq.Kp 1 T T' ∧ T'[1]? = some (.pointer (some ⟨w.heap.size, 0, none⟩)) ∧ T'[2]? = some (.string ⟨#[]⟩)) → Q .normal ⟨T', []⟩ (w.alloc (Obj.cells #[.slice s.ad s.len s.cap] 24))) : (Fq.reg Tryz.f18 0).wp Tryz.prog Q ⟨T, []⟩ w := by
 have a0 := fun h => Fq.el s0 h
 have d0 := Fq.gd s0
 have hu : undef = Value.tuple #[] := rfl
 have HQ := hide hQ
 clear hQ
 conv => arg 2; whnf
 go_wp2_with fail
 exact (unhide HQ) _ ⟨(by (repeat (with_reducible refine Fq.Kp.set ?_ (by decide) _)); with_reducible exact Fq.Kp.refl _ _), by simp [hT], by simp [hT]⟩
end
section
variable (num : Int → ByteArray) {m n : Nat} (A : List UInt8)
theorem Pr.u_main : Pr.by A ++ ⟨#[109, 97, 105, 110, 32, 123, 10]⟩ = Pr.by (A ++ Sp.ln 0 [⟨#[109, 97, 105, 110, 32, 123]⟩]) := by
 refine Pr.ba_ext ?_
 unfold Sp.ln Sp.flat
 simp [Pr.by_list]
theorem Pr.u_func (nm : ByteArray) (ps : List ByteArray) : Pr.by A ++ ((((⟨#[102, 117, 110, 99, 32]⟩ ++ nm) ++ ⟨#[40]⟩) ++ Pr.commas ps) ++ ⟨#[41, 32, 123, 10]⟩) = Pr.by (A ++ Sp.ln 0 [⟨#[102, 117, 110, 99, 32]⟩, nm, ⟨#[40]⟩, Pr.commas ps, ⟨#[41, 32, 123]⟩]) := by
 refine Pr.ba_ext ?_
 unfold Sp.ln Sp.flat
 simp [Pr.by_list]
theorem Pr.u_var (y : ByteArray × Int) (h : y.2 = 0) : Pr.by A ++ ((⟨#[32, 32, 118, 97, 114, 32]⟩ ++ y.1) ++ ⟨#[59, 10]⟩) = Pr.by (A ++ Sp.ln (0 + 2) (Pr.var num y)) := by
 refine Pr.ba_ext ?_
 unfold Pr.var
 rw [if_pos h]
 unfold Sp.ln Sp.flat
 simp [Pr.by_list, List.replicate_succ]
theorem Pr.u_arr (y : ByteArray × Int) (h : ¬ y.2 = 0) : Pr.by A ++ ((((⟨#[32, 32, 97, 114, 114, 32]⟩ ++ y.1) ++ ⟨#[32]⟩) ++ num y.2) ++ ⟨#[59, 10]⟩) = Pr.by (A ++ Sp.ln (0 + 2) (Pr.var num y)) := by
 refine Pr.ba_ext ?_
 unfold Pr.var
 rw [if_neg h]
 unfold Sp.ln Sp.flat
 simp [Pr.by_list, List.replicate_succ]
theorem Pr.u_app (B : List UInt8) : Pr.by A ++ Pr.by B = Pr.by (A ++ B) := by
 refine Pr.ba_ext ?_
 simp [Pr.by_list]
theorem Pr.u_ret (x : Tk.ET m) : Pr.by A ++ ((⟨#[32, 32, 114, 101, 116, 117, 114, 110, 32]⟩ ++ Pr.text num m x) ++ ⟨#[59, 10]⟩) = Pr.by (A ++ Sp.ln (0 + 2) [⟨#[114, 101, 116, 117, 114, 110, 32]⟩, Pr.text num m x, ⟨#[59]⟩]) := by
 refine Pr.ba_ext ?_
 unfold Sp.ln Sp.flat
 simp [Pr.by_list, List.replicate_succ]
theorem Pr.u_end : Pr.by A ++ ⟨#[125, 10]⟩ = Pr.by (A ++ Sp.ln 0 [⟨#[125]⟩]) := by
 refine Pr.ba_ext ?_
 unfold Sp.ln Sp.flat
 simp [Pr.by_list]
end
def Tt.fb {m n : Nat} (mn : Bool) (x : Tk.FT m n) : List UInt8 := if mn = true then Pr.main Qd.num 0 (Pr.cmd Qd.num n 2) x else Pr.func Qd.num 0 (Pr.cmd Qd.num n 2) x
def Tt.hd {m n : Nat} (mn : Bool) (x : Tk.FT m n) : List UInt8 := if mn = true then Sp.ln 0 [⟨#[109, 97, 105, 110, 32, 123]⟩] else Sp.ln 0 [⟨#[102, 117, 110, 99, 32]⟩, x.nm, ⟨#[40]⟩, Pr.commas x.ps, ⟨#[41, 32, 123]⟩]
def Tt.rt {m n : Nat} (mn : Bool) (x : Tk.FT m n) : List UInt8 := if mn = true then [] else Sp.ln (0 + 2) [⟨#[114, 101, 116, 117, 114, 110, 32]⟩, Pr.text Qd.num m x.re, ⟨#[59]⟩]
theorem Tt.fb_is {m n : Nat} (mn : Bool) (x : Tk.FT m n) (A : List UInt8) : A ++ Tt.hd mn x ++ Pr.vars Qd.num (0 + 2) x.vs ++ x.cs.flatMap (Pr.cmd Qd.num n 2) ++ Tt.rt mn x ++ Sp.ln 0 [⟨#[125]⟩] = A ++ Tt.fb mn x := by
 cases mn
 · show A ++ Sp.ln 0 _ ++ _ ++ _ ++ Sp.ln (0 + 2) _ ++ _ = A ++ Pr.func Qd.num 0 (Pr.cmd Qd.num n 2) x
   unfold Pr.func Pr.inF Pr.inM
   simp only [List.append_assoc]
 · show A ++ Sp.ln 0 _ ++ _ ++ _ ++ [] ++ _ = A ++ Pr.main Qd.num 0 (Pr.cmd Qd.num n 2) x
   unfold Pr.main Pr.inM
   simp only [List.append_assoc, List.nil_append]
structure Tt.F (T : Array Value) (bt : Nat) (out : ByteArray) (i : Nat) : Prop where
 size : T.size = 100
 s1 : T[1]? = some (.pointer (some ⟨bt, 0, none⟩))
 s3 : T[3]? = some (.string out)
 s4 : T[4]? = some (.int .i64 (i : Nat))
structure Tt.M (T : Array Value) (bt : Nat) (out : ByteArray) (i bx : Nat) (mn : Bool) : Prop extends Tt.F T bt out i where
 s5 : T[5]? = some (.pointer (some ⟨bx, 0, none⟩))
 s6 : T[6]? = some (.bool mn)
theorem Tt.F.kp {T T' : Array Value} {bt i : Nat} {out : ByteArray} (h : Tt.F T bt out i) (k : Fq.Kp 5 T T') : Tt.F T' bt out i :=
 ⟨k.size.trans h.size, (k.at_ 1 (by omega)).trans h.s1, (k.at_ 3 (by omega)).trans h.s3, (k.at_ 4 (by omega)).trans h.s4⟩
theorem Tt.M.kp {T T' : Array Value} {bt i bx : Nat} {out : ByteArray} {mn : Bool} (h : Tt.M T bt out i bx mn) (k : Fq.Kp 7 T T') : Tt.M T' bt out i bx mn :=
 ⟨h.toF.kp (k.mono (by omega)), (k.at_ 5 (by omega)).trans h.s5, (k.at_ 6 (by omega)).trans h.s6⟩
theorem Tt.M.put {T T' : Array Value} {bt i bx : Nat} {out out2 : ByteArray} {mn : Bool} (h : Tt.M T bt out i bx mn) (k : Fq.Kp 3 T T') (g3 : T'[3]? = some (.string out2)) (g4 : T'[4]? = some (.int .i64 (i : Nat))) (g5 : T'[5]? = some (.pointer (some ⟨bx, 0, none⟩))) (g6 : T'[6]? = some (.bool mn)) : Tt.M T' bt out2 i bx mn :=
 ⟨⟨k.size.trans h.size, (k.at_ 1 (by omega)).trans h.s1, g3, g4⟩, g5, g6⟩
theorem tt_round {m n : Nat} {s : Tk.Sl} {w wr : World} (hbw : Below w.heap.size w wr) {bt b o i : Nat} (had : s.ad = some ⟨b, o, none⟩) (hlt : i < s.len) (htl : s.len ≤ 35184372088832) (x0 : ∀ V, Below wr.heap.size wr V → V.cell? ⟨bt, 0, none⟩ = some (.slice s.ad s.len s.cap)) {q : Tk.F} {x : Tk.FT m n} (hrd : Tk.RF w m n q x)
  (hcell : ∀ j v, q.cells[j]? = some v → wr.cell? ⟨b, o + i * 10 + j, none⟩ = some v) (mn : Bool) (hmn : mn = ((i : Int) == (s.len : Int) - 1)) (hok : Pr.fok x) (hcb : ∀ y ∈ x.cs, Tk.cmdB n y = true) (hre : mn = false → Pr.eok Pr.NK x.re) {A : List UInt8} (hlen : A.length + (Tt.fb mn x).length ≤ 140737488355328) {U : Array Value} (hF : Tt.F U bt (Pr.by A) i) {Q : Exit → Act → World → Prop}
  (hQ : ∀ U' v, Tt.F U' bt (Pr.by (A ++ Tt.fb mn x)) i → Below wr.heap.size wr v → Q .normal ⟨U', []⟩ v) :
  (Fq.blk Tryz.f18 1).wp Tryz.prog Q ⟨U, []⟩ wr := by
 have hal := (Below.refl wr.heap.size wr).alloc (Nat.le_refl _) (Obj.cells q.cells 54)
 have hBV : Tk.BV (wr.alloc (Obj.cells q.cells 54)) wr.heap.size q.cells := fun j v h => (World.cell?_alloc_new wr q.cells 54 j).trans h
 have hbx : wr.heap.size < (wr.alloc (Obj.cells q.cells 54)).heap.size := by simp
 have hW1 := hbw.trans (hal.mono hbw.size)
 have hfi := congrArg List.length (Tt.fb_is mn x A)
 simp only [List.length_append] at hfi
 have h00 := x0 wr (Below.refl _ _)
 have h01 := x0 _ hal
 rw [had] at h00
 refine Fq.in_ Tryz.f18 1 (by kernel_rfl) ?_
 refine wp_seq ?_
 refine Fq.at_ Tryz.f18 5 (by kernel_rfl) ?_
 refine tt_r5 hF.size hF.s1 hF.s4 h00 hlt (hcell 0 _ rfl) (hcell 1 _ rfl) (hcell 2 _ rfl) (hcell 3 _ rfl) (hcell 4 _ rfl) (hcell 5 _ rfl) (hcell 6 _ rfl) (hcell 7 _ rfl) (hcell 8 _ rfl) (hcell 9 _ rfl) (fun U1 ⟨k1, h5⟩ => ?_)
 have hF1 := hF.kp k1
 generalize wr.alloc (Obj.cells q.cells 54) = W1 at *
 refine Fq.ok (wp_seq ?_)
 refine Fq.at_ Tryz.f18 6 (by kernel_rfl) ?_
 refine tt_r6 hF1.size hF1.s1 hF1.s4 h01 htl hmn (fun U2 ⟨k2, h6⟩ => ?_)
 have hM2 : Tt.M U2 bt (Pr.by A) i wr.heap.size mn := ⟨hF1.kp (k2.mono (by omega)), (k2.at_ 5 (by omega)).trans h5, h6⟩
 refine Fq.ok ?_
 refine Fq.cut (fun T' v => Tt.M T' bt (Pr.by (A ++ Tt.hd mn x)) i wr.heap.size mn ∧ Below W1.heap.size W1 v) (fun Q' hN => ?_) (fun T' v ⟨hM, hv⟩ => ?_)
 · refine wp_seq ?_
   refine Fq.at_ Tryz.f18 7 (by kernel_rfl) ?_
   refine tt_r7 hM2.size hM2.s6 (fun U3 ⟨k3, h26⟩ => ?_)
   have hM3 := hM2.kp (k3.mono (by omega))
   refine Fq.ok (Fq.cond 26 h26 (fun hc => ?_) (fun hc => ?_))
   · subst hc
     have hzz := congrArg ByteArray.size (Pr.u_main A)
     simp only [ByteArray.size_append, Pr.by_size, List.length_append] at hzz
     have z0 : (⟨#[109, 97, 105, 110, 32, 123, 10]⟩ : ByteArray).size = 7 := rfl
     refine Fq.at_ Tryz.f18 8 (by kernel_rfl) ?_
     refine tt_r8 hM3.size hM3.s3 hM3.s4 hM3.s5 hM3.s6 (by rw [Pr.by_size]; unfold Tt.hd at hfi; rw [if_pos rfl] at hfi; omega) (fun U4 ⟨k4, g3, g4, g5, g6⟩ => ?_)
     rw [Pr.u_main] at g3
     exact hN _ _ ⟨hM3.put k4 g3 g4 g5 g6, Below.refl _ _⟩
   · subst hc
     have hzz := congrArg ByteArray.size (Pr.u_func A x.nm x.ps)
     simp only [ByteArray.size_append, Pr.by_size, List.length_append] at hzz
     have z0 : (⟨#[102, 117, 110, 99, 32]⟩ : ByteArray).size = 5 := rfl
     have z1 : (⟨#[40]⟩ : ByteArray).size = 1 := rfl
     have z2 : (⟨#[41, 32, 123, 10]⟩ : ByteArray).size = 4 := rfl
     have hnm := hrd.nm
     have hnms : q.nm.size = x.nm.size := by rw [hnm]
     have hpl := (hrd.ps.laterS hW1 (Nat.le_refl _)).len
     have hcom : ∀ V, Below W1.heap.size W1 V → Calls Tryz.prog 40 #[.slice q.ps.ad q.ps.len q.ps.cap] V fun r w' => r = .returned (.string (Pr.commas x.ps)) ∧ Below V.heap.size V w' := fun V hV => by
      have hps := hrd.ps.laterS (hW1.trans (hV.mono hW1.size)) (Nat.le_refl _)
      rw [hpl]
      refine (refCommas_any q.ps.ad q.ps.cap x.ps V (fun j t ht => ?_) hok.ps.1 (fun t ht => Nat.le_trans (hok.ps.2 t ht) (by decide))).mono (fun r w' h => ⟨h.1, by rw [h.2]; exact Below.refl _ _⟩)
      obtain ⟨b2, o2, q2, ha2, _, hl2, hr2⟩ := hps.at_ j t ht
      refine ⟨b2, o2, ha2, ?_⟩
      have hl2 : V.cell? ⟨b2, o2 + j * 1, none⟩ = some (.string q2) := hl2
      rw [Nat.mul_one, hr2.1] at hl2
      exact hl2
     refine Fq.at_ Tryz.f18 9 (by kernel_rfl) ?_
     refine tt_r9 hM3.size hM3.s3 hM3.s4 hM3.s5 hM3.s6 (fun V hV => ⟨(hBV.below hV hbx) 1 _ rfl, (hBV.below hV hbx) 2 _ rfl⟩) (by rw [Pr.by_size]; unfold Tt.hd at hfi; rw [if_neg (by decide)] at hfi; omega) hcom (fun U4 W4 ⟨k4, g3, g4, g5, g6, hb4⟩ => ?_)
     rw [hnm, Pr.u_func] at g3
     exact hN _ _ ⟨hM3.put k4 g3 g4 g5 g6, hb4⟩
 · have hWv := hW1.trans (hv.mono hW1.size)
   have hBVv := hBV.below hv hbx
   have hbxv : wr.heap.size < v.heap.size := Nat.lt_of_lt_of_le hbx hv.size
   refine Fq.cut (fun T' v' => Tt.M T' bt (Pr.by (A ++ Tt.hd mn x ++ Pr.vars Qd.num (0 + 2) x.vs)) i wr.heap.size mn ∧ Below v.heap.size v v') (fun Q' hN => ?_) (fun T2 v2 ⟨hM2', hv2⟩ => ?_)
   · refine wp_seq ?_
     refine Fq.at_ Tryz.f18 10 (by kernel_rfl) ?_
     refine tt_r10 hM.size (fun U3 ⟨k3, h7⟩ => ?_)
     have hM3 := hM.kp k3
     refine Fq.ok (wp_block ?_)
     have hvl := hrd.vs.len
     have hvf := hrd.vs.few
     refine wp_loop_ghost (fun d a v' => ∃ (U' : Array Value) (k : Nat), a = ⟨U', []⟩ ∧ k ≤ q.vs.len ∧ d = q.vs.len - k ∧ Tt.M U' bt (Pr.by (A ++ Tt.hd mn x ++ Pr.vars Qd.num (0 + 2) (x.vs.take k))) i wr.heap.size mn ∧ U'[7]? = some (.int .i64 (k : Nat)) ∧ Below v.heap.size v v') q.vs.len ⟨U3, 0, rfl, Nat.zero_le _, rfl, (by rw [List.take_zero]; show Tt.M U3 bt (Pr.by (A ++ Tt.hd mn x ++ [])) i wr.heap.size mn; rw [List.append_nil]; exact hM3), h7, Below.refl _ _⟩ ?_
     rintro d a v' ⟨Ua, k, rfl, hka, rfl, hMa, h7a, hbv2⟩
     have hBVa := hBVv.below hbv2 hbxv
     have hbxa : wr.heap.size < v'.heap.size := Nat.lt_of_lt_of_le hbxv hbv2.size
     have hWa := hWv.trans (hbv2.mono hWv.size)
     refine wp_seq (wp_seq ?_)
     refine Fq.at_ Tryz.f18 11 (by kernel_rfl) ?_
     refine tt_r11 hMa.size hMa.s5 h7a (hBVa 3 _ rfl) rfl (fun Ub ⟨kb, h44⟩ => ?_)
     have hMb := hMa.kp (kb.mono (by omega))
     have h7b := (kb.at_ 7 (by omega)).trans h7a
     refine Fq.ok (Fq.cond 44 h44 (fun hb => ?_) (fun hb => ?_))
     · have hkt : k < q.vs.len := of_decide_eq_true hb
       have hkt2 : k < x.vs.length := by omega
       have hyk := List.getElem?_eq_getElem hkt2
       have hvok := hok.vs _ (List.getElem_mem hkt2)
       have hft := Pr.flat_take (fun y => Sp.ln (0 + 2) (Pr.var Qd.num y)) x.vs k _ hyk
       have hle := Pr.flat_le (fun y => Sp.ln (0 + 2) (Pr.var Qd.num y)) x.vs (k + 1)
       obtain ⟨bv, ov, qv, hav, _, hlv, hrv⟩ := (hrd.vs.laterV hWa (Nat.le_refl _)).at_ k _ hyk
       generalize x.vs[k] = y at *
       obtain ⟨hrv1, hrv2⟩ := hrv
       subst hrv1
       obtain ⟨hl0, hl1⟩ := hlv
       rw [hft, List.length_append] at hle
       have hft : Pr.vars Qd.num (0 + 2) (x.vs.take (k + 1)) = Pr.vars Qd.num (0 + 2) (x.vs.take k) ++ Sp.ln (0 + 2) (Pr.var Qd.num qv) := hft
       have hle : (Pr.vars Qd.num (0 + 2) (x.vs.take k)).length + (Sp.ln (0 + 2) (Pr.var Qd.num qv)).length ≤ (Pr.vars Qd.num (0 + 2) x.vs).length := hle
       have x3 : v'.cell? ⟨wr.heap.size, 3, none⟩ = some (.slice (some ⟨bv, ov, none⟩) q.vs.len q.vs.cap) := by rw [← hav]; exact hBVa 3 _ rfl
       refine Fq.skip (Fq.ok (wp_seq (wp_block ?_)))
       refine Fq.norm (fun T' v2 => Tt.M T' bt (Pr.by (A ++ Tt.hd mn x ++ Pr.vars Qd.num (0 + 2) (x.vs.take (k + 1)))) i wr.heap.size mn ∧ T'[7]? = some (.int .i64 (k : Nat)) ∧ Below v'.heap.size v' v2) (fun Ud vd ⟨hMd, h7d, hbd⟩ => ?_) ?_
       · refine Fq.blN (Fq.ok ?_)
         refine Fq.at_ Tryz.f18 12 (by kernel_rfl) ?_
         refine tt_r12 hMd.size h7d (by omega) (fun Ue ⟨ke, h7e⟩ => ?_)
         exact ⟨q.vs.len - (k + 1), by omega, Ue, k + 1, rfl, by omega, rfl, hMd.kp ke, h7e, hbv2.trans (hbd.mono hbv2.size)⟩
       · obtain ⟨VB, hVB⟩ : ∃ VB, VB = (qv.2 == 0) := ⟨_, rfl⟩
         refine wp_seq ?_
         refine Fq.at_ Tryz.f18 13 (by kernel_rfl) ?_
         refine tt_r13 hMb.size hMb.s5 h7b x3 hkt hl1 hVB (fun Uc ⟨kc, h53⟩ => ?_)
         have hMc := hMb.kp (kc.mono (by omega))
         have h7c := (kc.at_ 7 (by omega)).trans h7b
         refine Fq.ok (Fq.cond 53 h53 (fun hz => ?_) (fun hz => ?_))
         · have hz0 : qv.2 = 0 := by rw [hz] at hVB; simpa using hVB.symm
           have hzz := congrArg ByteArray.size (Pr.u_var Qd.num [] qv hz0)
           simp only [ByteArray.size_append, Pr.by_size, List.length_append] at hzz
           have z0 : (⟨#[32, 32, 118, 97, 114, 32]⟩ : ByteArray).size = 6 := rfl
           have z1 : (⟨#[59, 10]⟩ : ByteArray).size = 2 := rfl
           refine Fq.at_ Tryz.f18 14 (by kernel_rfl) ?_
           refine tt_r14 hMc.size hMc.s3 hMc.s4 hMc.s5 hMc.s6 h7c x3 hkt hl0 (by rw [Pr.by_size, List.length_append, List.length_append]; omega) (fun U4 ⟨k4, g3, g4, g5, g6, g7⟩ => ?_)
           rw [Pr.u_var Qd.num _ qv hz0, List.append_assoc (A ++ Tt.hd mn x), ← hft] at g3
           exact ⟨rfl, hMc.put k4 g3 g4 g5 g6, g7, Below.refl _ _⟩
         · have hz0 : ¬ qv.2 = 0 := by rw [hz] at hVB; intro h; rw [h] at hVB; simp at hVB
           have hnk := hvok.2.resolve_left hz0
           have hzz := congrArg ByteArray.size (Pr.u_arr Qd.num [] qv hz0)
           simp only [ByteArray.size_append, Pr.by_size, List.length_append] at hzz
           have z0 : (⟨#[32, 32, 97, 114, 114, 32]⟩ : ByteArray).size = 6 := rfl
           have z1 : (⟨#[32]⟩ : ByteArray).size = 1 := rfl
           have z2 : (⟨#[59, 10]⟩ : ByteArray).size = 2 := rfl
           have hla : bv < v'.heap.size := World.block_lt_of_cell? v' _ hl0
           refine Fq.at_ Tryz.f18 15 (by kernel_rfl) ?_
           refine tt_r15 hMc.size hMc.s3 hMc.s4 hMc.s5 hMc.s6 h7c hkt (fun V hV => ⟨(hV.cell (p := ⟨wr.heap.size, 3, none⟩) hbxa).trans x3, (hV.cell (p := ⟨bv, ov + k * 2, none⟩) hla).trans hl0, (hV.cell (p := ⟨bv, ov + k * 2 + 1, none⟩) hla).trans hl1⟩) (by rw [Pr.by_size, List.length_append, List.length_append]; omega) (fun V _ => Digits_any qv.2 (by have := hnk.1; omega) (by have := hnk.2; omega) V) (fun U4 W4 ⟨k4, g3, g4, g5, g6, g7, hb4⟩ => ?_)
           rw [Pr.u_arr Qd.num _ qv hz0, List.append_assoc (A ++ Tt.hd mn x), ← hft] at g3
           exact ⟨rfl, hMc.put k4 g3 g4 g5 g6, g7, hb4⟩
     · have hge : k = q.vs.len := by have := of_decide_eq_false hb; omega
       subst hge
       rw [List.take_of_length_le (by omega)] at hMb
       refine wp_exit ?_
       refine Fq.thX (Fq.thX (Fq.blX ?_))
       exact hN _ _ ⟨hMb, hbv2⟩
   · have hW2 := hWv.trans (hv2.mono hWv.size)
     have hBV2 := hBVv.below hv2 hbxv
     have hbx2 : wr.heap.size < v2.heap.size := Nat.lt_of_lt_of_le hbxv hv2.size
     have hcmds := refCmds_any n 5 2 q.cs x.cs v2 (hrd.cs.laterC hW2 (Nat.le_refl _)) hcb hok.cs (by omega) (by omega)
     rw [show Pr.bl 2 = ⟨#[32, 32]⟩ from rfl] at hcmds
     refine wp_seq ?_
     refine Fq.at_ Tryz.f18 16 (by kernel_rfl) ?_
     refine tt_r16 hM2'.size hM2'.s3 hM2'.s4 hM2'.s5 hM2'.s6 (hBV2 4 _ rfl) (by rw [Pr.by_size, Pr.by_size, List.length_append, List.length_append]; omega) hcmds (fun U4 W4 ⟨k4, g3, g4, g5, g6, hb4⟩ => ?_)
     rw [Pr.u_app] at g3
     have hM4 := hM2'.put k4 g3 g4 g5 g6
     have hBV4 := hBV2.below hb4 hbx2
     have hW4 := hW2.trans (hb4.mono hW2.size)
     refine Fq.ok ?_
     refine Fq.cut (fun T' v' => Tt.M T' bt (Pr.by (A ++ Tt.hd mn x ++ Pr.vars Qd.num (0 + 2) x.vs ++ x.cs.flatMap (Pr.cmd Qd.num n 2) ++ Tt.rt mn x)) i wr.heap.size mn ∧ Below W4.heap.size W4 v') (fun Q' hN => ?_) (fun T5 v5 ⟨hM5, hv5⟩ => ?_)
     · refine wp_seq ?_
       refine Fq.at_ Tryz.f18 17 (by kernel_rfl) ?_
       refine tt_r17 hM4.size hM4.s6 (fun U5 ⟨k5, h89⟩ => ?_)
       have hM5 := hM4.kp (k5.mono (by omega))
       refine Fq.ok (Fq.cond 89 h89 (fun hc => ?_) (fun hc => ?_))
       · have hmf : mn = false := by simpa using hc
         subst hmf
         have hr := hre rfl
         have hzz := congrArg ByteArray.size (Pr.u_ret Qd.num [] x.re)
         simp only [ByteArray.size_append, Pr.by_size, List.length_append] at hzz
         have z0 : (⟨#[32, 32, 114, 101, 116, 117, 114, 110, 32]⟩ : ByteArray).size = 9 := rfl
         have z1 : (⟨#[59, 10]⟩ : ByteArray).size = 2 := rfl
         refine Fq.at_ Tryz.f18 18 (by kernel_rfl) ?_
         refine tt_r18 hM5.size hM5.s3 hM5.s4 hM5.s5 hM5.s6 (hBV4 5 _ rfl) (hBV4 6 _ rfl) (hBV4 7 _ rfl) (hBV4 8 _ rfl) (hBV4 9 _ rfl) (by rw [Pr.by_size, List.length_append, List.length_append, List.length_append]; unfold Tt.rt at hfi; rw [if_neg (by decide)] at hfi; omega) (refExpr_any Qd.nk_size m q.re x.re W4 (hrd.re.later hW4 (Nat.le_refl _)) hr.1 hr.2) (fun U6 W6 ⟨k6, p3, p4, p5, p6, hb6⟩ => ?_)
         rw [Pr.u_ret] at p3
         exact hN _ _ ⟨hM5.put k6 p3 p4 p5 p6, hb6⟩
       · have hmf : mn = true := by simpa using hc
         subst hmf
         refine Fq.skip (hN _ _ ⟨?_, Below.refl _ _⟩)
         show Tt.M U5 bt (Pr.by (A ++ Tt.hd true x ++ Pr.vars Qd.num (0 + 2) x.vs ++ x.cs.flatMap (Pr.cmd Qd.num n 2) ++ [])) i wr.heap.size true
         rw [List.append_nil]
         exact hM5
     · have hR : Below wr.heap.size wr v5 := (((hal.trans (hv.mono hal.size)).trans (hv2.mono (by omega))).trans (hb4.mono (by omega))).trans (hv5.mono (by have := hb4.size; omega))
       have hzz := congrArg ByteArray.size (Pr.u_end [])
       simp only [ByteArray.size_append, Pr.by_size, List.length_append] at hzz
       have z0 : (⟨#[125, 10]⟩ : ByteArray).size = 2 := rfl
       refine Fq.at_ Tryz.f18 19 (by kernel_rfl) ?_
       refine tt_r19 hM5.size hM5.s3 hM5.s4 hM5.s5 hM5.s6 (by rw [Pr.by_size, List.length_append, List.length_append, List.length_append, List.length_append]; omega) (fun U6 ⟨k6, p3, p4, p5, p6⟩ => ?_)
       rw [Pr.u_end, Tt.fb_is] at p3
       exact hQ _ _ (hM5.put k6 p3 p4 p5 p6).toF hR
theorem tt_loop (s : Tk.Sl) (htl : s.len ≤ 35184372088832) (w : World) (g : Nat → List UInt8) (hg : g 0 = [])
  (hround : ∀ i, i < s.len → ∀ (wr : World), Below (w.heap.size + 1) (w.alloc (Obj.cells #[.slice s.ad s.len s.cap] 24)) wr → ∀ (U : Array Value), Tt.F U w.heap.size (Pr.by (g i)) i → ∀ Q : Exit → Act → World → Prop, (∀ U' v, Tt.F U' w.heap.size (Pr.by (g (i + 1))) i → Below wr.heap.size wr v → Q .normal ⟨U', []⟩ v) → (Fq.blk Tryz.f18 1).wp Tryz.prog Q ⟨U, []⟩ wr) :
  Calls Tryz.prog 18 #[.agg #[.slice s.ad s.len s.cap]] w fun r w' => r = .returned (.string (Pr.by (g s.len))) ∧ Below w.heap.size w w' := by
 refine calls_of_wp Tryz.func18 rfl ?_
 rw [show Tryz.f18.ntmps - (#[.agg #[.slice s.ad s.len s.cap]] : Array Value).size = 99 by rw [Tryz.ntmps18]; rfl]
 obtain ⟨T0, hT0⟩ : ∃ T0, T0 = #[.agg #[.slice s.ad s.len s.cap]] ++ Array.replicate 99 undef := ⟨_, rfl⟩
 have hT : T0.size = 100 := by rw [hT0, Array.size_append, Array.size_replicate]; rfl
 have s0 : T0[0]? = some (.agg #[.slice s.ad s.len s.cap]) := by rw [hT0]; simp
 rw [← hT0]
 clear hT0
 have hal := (Below.refl w.heap.size w).alloc (Nat.le_refl _) (Obj.cells #[.slice s.ad s.len s.cap] 24)
 have hsz : (w.alloc (Obj.cells #[.slice s.ad s.len s.cap] 24)).heap.size = w.heap.size + 1 := by simp
 have hb0 : (w.alloc (Obj.cells #[.slice s.ad s.len s.cap] 24)).cell? ⟨w.heap.size, 0, none⟩ = some (.slice s.ad s.len s.cap) := by simp
 refine wp_seq ?_
 refine Fq.at_ Tryz.f18 0 (by kernel_rfl) ?_
 refine tt_r0 hT s0 (fun U1 ⟨k1, h1, _⟩ => ?_)
 generalize w.alloc (Obj.cells #[.slice s.ad s.len s.cap] 24) = wa at *
 refine Fq.ok ?_
 refine wp_seq ?_
 refine Fq.at_ Tryz.f18 1 (by kernel_rfl) ?_
 refine tt_r1 (k1.size.trans hT) (fun U2 ⟨k2, h3⟩ => ?_)
 refine Fq.ok ?_
 refine wp_seq (wp_seq ?_)
 refine Fq.at_ Tryz.f18 2 (by kernel_rfl) ?_
 refine tt_r2 (k2.size.trans (k1.size.trans hT)) (fun U3 ⟨k3, h4⟩ => ?_)
 have hF : Tt.F U3 w.heap.size (Pr.by (g 0)) 0 := ⟨k3.size.trans (k2.size.trans (k1.size.trans hT)), (k3.at_ 1 (by omega)).trans ((k2.at_ 1 (by omega)).trans h1), by rw [hg]; exact (k3.at_ 3 (by omega)).trans h3, h4⟩
 refine Fq.ok ?_
 refine wp_block ?_
 refine wp_loop_ghost (fun d a v => ∃ (U' : Array Value) (i : Nat), a = ⟨U', []⟩ ∧ i ≤ s.len ∧ d = s.len - i ∧ Tt.F U' w.heap.size (Pr.by (g i)) i ∧ Below (w.heap.size + 1) wa v) s.len ⟨U3, 0, rfl, Nat.zero_le _, rfl, hF, Below.refl _ _⟩ ?_
 rintro d a v ⟨Ua, i, rfl, hi, rfl, hFa, hbv⟩
 have hb0v : v.cell? ⟨w.heap.size, 0, none⟩ = some (.slice s.ad s.len s.cap) := (hbv.cell (p := ⟨w.heap.size, 0, none⟩) (by show w.heap.size < w.heap.size + 1; omega)).trans hb0
 have hvz := hbv.size
 refine wp_seq (wp_seq ?_)
 refine Fq.at_ Tryz.f18 3 (by kernel_rfl) ?_
 refine tt_r3 hFa.size hFa.s1 hFa.s4 hb0v htl rfl (fun Ub ⟨kb, h12⟩ => ?_)
 have hFb := hFa.kp (kb.mono (by omega))
 refine Fq.ok ?_
 refine Fq.cond 12 h12 (fun hb => ?_) (fun hb => ?_)
 · have hlt : i < s.len := by have := of_decide_eq_true hb; omega
   refine Fq.skip ?_
   refine Fq.ok ?_
   refine wp_seq (wp_block ?_)
   refine Fq.in_ Tryz.f18 1 (by kernel_rfl) ?_
   refine hround i hlt v hbv Ub hFb _ (fun Uc vc hFc hbc => ?_)
   refine Fq.blN (Fq.ok ?_)
   refine Fq.at_ Tryz.f18 4 (by kernel_rfl) ?_
   refine tt_r4 hFc.size hFc.s4 (by omega) (fun Ud ⟨kd, hd4⟩ => ?_)
   exact ⟨s.len - (i + 1), by omega, Ud, i + 1, rfl, by omega, rfl, ⟨kd.size.trans hFc.size, (kd.at_ 1 (by omega)).trans hFc.s1, (kd.at_ 3 (by omega)).trans hFc.s3, hd4⟩, hbv.trans (hbc.mono (by omega))⟩
 · have hge : i = s.len := by have := of_decide_eq_false hb; omega
   subst hge
   refine wp_exit ?_
   refine Fq.thX (Fq.thX (Fq.blX (Fq.ok ?_)))
   refine wp_seq ?_
   refine Fq.at_ Tryz.f18 20 (by kernel_rfl) ?_
   refine tt_r20 hFb.size hFb.s3 (fun Ue ⟨_, h2⟩ => ?_)
   refine Fq.ok (wp_ret ?_)
   exact Fq.ret rfl h2 ⟨rfl, hal.trans (hbv.mono (by omega))⟩
theorem refTree_any {m n : Nat} (s : Tk.Sl) (l : List (Tk.FT m n)) (z : Tk.FT m n) (w : World) (hs : Tk.RT w m n s (l ++ [z])) (hok : ∀ x ∈ l ++ [z], Pr.fok x ∧ ∀ y ∈ x.cs, Tk.cmdB n y = true) (hre : ∀ x ∈ l, Pr.eok Pr.NK x.re) (hlen : (l.flatMap (Tt.fb false)).length + (Tt.fb true z).length ≤ 140737488355328) :
  Calls Tryz.prog 18 #[.agg #[.slice s.ad s.len s.cap]] w fun r w' => r = .returned (.string (Pr.by (l.flatMap (Tt.fb false) ++ Tt.fb true z))) ∧ Below w.heap.size w w' := by
 have hln := hs.len
 have hfew := hs.few
 have hll : (l ++ [z]).length = l.length + 1 := by simp
 have hal := (Below.refl w.heap.size w).alloc (Nat.le_refl _) (Obj.cells #[.slice s.ad s.len s.cap] 24)
 have hsz : (w.alloc (Obj.cells #[.slice s.ad s.len s.cap] 24)).heap.size = w.heap.size + 1 := by simp
 have hb0 : (w.alloc (Obj.cells #[.slice s.ad s.len s.cap] 24)).cell? ⟨w.heap.size, 0, none⟩ = some (.slice s.ad s.len s.cap) := by simp
 have hs1 := Tk.RT.later hs hal (Nat.le_refl _)
 have h := tt_loop s (by omega) w (fun i => if i ≤ l.length then (l.take i).flatMap (Tt.fb false) else l.flatMap (Tt.fb false) ++ Tt.fb true z) (by rw [if_pos (Nat.zero_le _)]; rfl) (fun i hi wr hbw U hF Q hQ => by
  generalize w.alloc (Obj.cells #[.slice s.ad s.len s.cap] 24) = wa at *
  have hbw : Below wa.heap.size wa wr := by rw [hsz]; exact hbw
  have hbx : ∀ V, Below wr.heap.size wr V → V.cell? ⟨w.heap.size, 0, none⟩ = some (.slice s.ad s.len s.cap) := fun V hV => (hV.cell (p := ⟨w.heap.size, 0, none⟩) (by show w.heap.size < _; have := hbw.size; omega)).trans ((hbw.cell (p := ⟨w.heap.size, 0, none⟩) (by show w.heap.size < _; omega)).trans hb0)
  by_cases hlt : i < l.length
  · have hy := List.getElem?_eq_getElem hlt
    have hy2 : (l ++ [z])[i]? = some l[i] := by rw [List.getElem?_append_left hlt]; exact hy
    obtain ⟨b, o, q, had, hb, hlies, hrd⟩ := hs1.at_ i _ hy2
    have hft := Pr.flat_take (Tt.fb false) l i _ hy
    have hle := Pr.flat_le (Tt.fb false) l (i + 1)
    rw [hft, List.length_append] at hle
    rw [if_pos (by omega)] at hF
    have hmem : l[i] ∈ l ++ [z] := List.mem_append_left _ (List.getElem_mem hlt)
    refine tt_round hbw had hi (by omega) hbx hrd (hlies.later hbw (Nat.le_refl _) hb).cells false (by rw [Eq.comm, beq_eq_false_iff_ne]; omega) (hok _ hmem).1 (hok _ hmem).2 (fun _ => hre _ (List.getElem_mem hlt)) (by omega) hF (fun U' v hF' hv => hQ U' v ?_ hv)
    rw [if_pos (by omega), hft]
    exact hF'
  · have e : i = l.length := by omega
    subst e
    have hy2 : (l ++ [z])[l.length]? = some z := by simp
    obtain ⟨b, o, q, had, hb, hlies, hrd⟩ := hs1.at_ l.length _ hy2
    rw [if_pos (Nat.le_refl _), List.take_length] at hF
    refine tt_round hbw had hi (by omega) hbx hrd (hlies.later hbw (Nat.le_refl _) hb).cells true (by rw [Eq.comm, beq_iff_eq]; omega) (hok z (by simp)).1 (hok z (by simp)).2 (fun h => by cases h) (by omega) hF (fun U' v hF' hv => hQ U' v ?_ hv)
    rw [if_neg (by omega)]
    exact hF')
 rw [hln, hll, if_neg (by omega)] at h
 rw [hln, hll]
 exact h
end Go.Proofs.YtfccpddehpgfoaaGreatDoor
