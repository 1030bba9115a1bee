/-
  Regions of the document's Machine.Do, each in a theorem of its own. By the verifier; written by mkyd.py.
-/
import Derived.Test.YtcalcikclcmkaaaJB
import Derived.Test.YtcalcikclcmkaaaJG
import Derived.Deep.RegionLaw
set_option maxRecDepth 100000
set_option maxHeartbeats 1600000
namespace Go.Proofs.Ytcalcikclcmkaaa
open Go.RowKit
set_option linter.unusedVariables false
section
variable {T : Array Value} {w : World} {Q : Exit → Act → World → Prop} {bm g c : Nat}
theorem md_r0 {k5 : Nat} (hT : T.size = 231) (s0 : T[0]? = some (.pointer (some ⟨bm, 0, none⟩))) (hc : Calls Try.prog 74 #[.pointer (some ⟨bm, 0, none⟩)] w fun r w' => r = .returned (.pointer (some ⟨g, k5, none⟩)) ∧ Below w.heap.size w w')
  (hQ : ∀ T' w', (Fq.Kp 2 T T' ∧ T'[2]? = some (.pointer (some ⟨g, k5, none⟩)) ∧ Below w.heap.size w w') → Q .normal ⟨T', []⟩ w') : (Fq.reg Try.f41 0).wp Try.prog Q ⟨T, []⟩ w := by
 have a0 := fun h => Fq.el s0 h
 have d0 := Fq.gd s0
 have hu : undef = Value.tuple #[] := rfl
 have HQ := hide hQ
 clear hQ
 conv => arg 2; whnf
 have HC := hide hc
 clear hc
 go_wp2_with (with_reducible refine (Calls.mono (unhide HC) ?_); rintro r w2 ⟨rfl, hb2⟩; have HB := hide hb2; clear hb2)
 exact (unhide HQ) _ _ ⟨(by (repeat (with_reducible refine Fq.Kp.set ?_ (by decide) _)); with_reducible exact Fq.Kp.refl _ _), Fq.set_at _ (by simp [hT]) _, unhide HB⟩
theorem md_r2 {b3 : Nat} {il ic el ec na ac nt xc ne lc : Nat} {ck cv cf ik inn ek en : Int} {ia ea aa xa la : Option Addr} (hT : T.size = 231) (s3 : T[3]? = some (.pointer (some ⟨b3, 0, none⟩))) (y0 : w.cell? ⟨b3, 0, none⟩ = some (.int .i64 ck)) (y1 : w.cell? ⟨b3, 1, none⟩ = some (.int .i64 cv)) (y2 : w.cell? ⟨b3, 2, none⟩ = some (.int .i64 cf)) (y3 : w.cell? ⟨b3, 3, none⟩ = some (.int .i64 ik)) (y4 : w.cell? ⟨b3, 4, none⟩ = some (.int .i64 inn)) (y5 : w.cell? ⟨b3, 5, none⟩ = some (.slice ia il ic)) (y6 : w.cell? ⟨b3, 6, none⟩ = some (.int .i64 ek)) (y7 : w.cell? ⟨b3, 7, none⟩ = some (.int .i64 en)) (y8 : w.cell? ⟨b3, 8, none⟩ = some (.slice ea el ec)) (y9 : w.cell? ⟨b3, 9, none⟩ = some (.slice aa na ac)) (y10 : w.cell? ⟨b3, 10, none⟩ = some (.slice xa nt xc)) (y11 : w.cell? ⟨b3, 11, none⟩ = some (.slice la ne lc))
  (hQ : ∀ T', (Fq.Kp 4 T T' ∧ T'[4]? = some (.pointer (some ⟨w.heap.size, 0, none⟩))) → Q .normal ⟨T', []⟩ (w.alloc (Obj.cells #[.int .i64 ck, .int .i64 cv, .int .i64 cf, .int .i64 ik, .int .i64 inn, .slice ia il ic, .int .i64 ek, .int .i64 en, .slice ea el ec, .slice aa na ac, .slice xa nt xc, .slice la ne lc] 80))) : (Fq.reg Try.f41 2).wp Try.prog Q ⟨T, []⟩ w := by
 have a3 := fun h => Fq.el s3 h
 have d3 := Fq.gd s3
 have hu : undef = Value.tuple #[] := rfl
 have HQ := hide hQ
 clear hQ
 conv => arg 2; whnf
 go_wp2_with fail
 exact (unhide HQ) _ ⟨(by (repeat (with_reducible refine Fq.Kp.set ?_ (by decide) _)); with_reducible exact Fq.Kp.refl _ _), Fq.set_at _ (by simp [hT]) _⟩
theorem md_r3 {b3 : Nat} {b14 : Bool} (hT : T.size = 231) (s3 : T[3]? = some (.pointer (some ⟨b3, 0, none⟩))) (y14 : w.cell? ⟨b3, 14, none⟩ = some (.bool b14))
  (hQ : ∀ T', (Fq.Kp 11 T T' ∧ T'[28]? = some (.bool b14)) → Q .normal ⟨T', []⟩ (w)) : (Fq.reg Try.f41 3).wp Try.prog Q ⟨T, []⟩ w := by
 have a3 := fun h => Fq.el s3 h
 have d3 := Fq.gd s3
 have hu : undef = Value.tuple #[] := rfl
 have HQ := hide hQ
 clear hQ
 conv => arg 2; whnf
 go_wp2_with fail
 exact (unhide HQ) _ ⟨(by (repeat (with_reducible refine Fq.Kp.set ?_ (by decide) _)); with_reducible exact Fq.Kp.refl _ _), Fq.set_at _ (by simp [hT]) _⟩
theorem md_r4 (hT : T.size = 231) (s0 : T[0]? = some (.pointer (some ⟨bm, 0, none⟩))) {R : World → Prop}  (hc : Calls Try.prog 75 #[.pointer (some ⟨bm, 0, none⟩)] w fun r w' => r = .returned (.tuple #[]) ∧ R w')
  (hQ : ∀ T' w', (Fq.Kp 11 T T' ∧ R w') → Q .normal ⟨T', []⟩ w') : (Fq.reg Try.f41 4).wp Try.prog Q ⟨T, []⟩ w := by
 have a0 := fun h => Fq.el s0 h
 have d0 := Fq.gd s0
 have hu : undef = Value.tuple #[] := rfl
 have HQ := hide hQ
 clear hQ
 conv => arg 2; whnf
 have HC := hide hc
 clear hc
 go_wp2_with (with_reducible refine (Calls.mono (unhide HC) ?_); rintro r w2 ⟨rfl, hb2⟩; have HB := hide hb2; clear hb2)
 exact (unhide HQ) _ _ ⟨(by (repeat (with_reducible refine Fq.Kp.set ?_ (by decide) _)); with_reducible exact Fq.Kp.refl _ _), unhide HB⟩
theorem md_r6 {b3 : Nat} {ka : Int} (hT : T.size = 231) (s0 : T[0]? = some (.pointer (some ⟨bm, 0, none⟩))) (s3 : T[3]? = some (.pointer (some ⟨b3, 0, none⟩))) {R : World → Prop} (y12 : w.cell? ⟨b3, 12, none⟩ = some (.int .i64 ka)) (hc : Calls Try.prog 76 #[.pointer (some ⟨bm, 0, none⟩), .int .i64 ka, .int .i64 1] w fun r w' => r = .returned (.tuple #[]) ∧ R w')
  (hQ : ∀ T' w', (Fq.Kp 11 T T' ∧ R w') → Q .normal ⟨T', []⟩ w') : (Fq.reg Try.f41 6).wp Try.prog Q ⟨T, []⟩ w := by
 have a0 := fun h => Fq.el s0 h
 have d0 := Fq.gd s0
 have a3 := fun h => Fq.el s3 h
 have d3 := Fq.gd s3
 have hu : undef = Value.tuple #[] := rfl
 have HQ := hide hQ
 clear hQ
 conv => arg 2; whnf
 have HC := hide hc
 clear hc
 go_wp2_with (with_reducible refine (Calls.mono (unhide HC) ?_); rintro r w2 ⟨rfl, hb2⟩; have HB := hide hb2; clear hb2)
 exact (unhide HQ) _ _ ⟨(by (repeat (with_reducible refine Fq.Kp.set ?_ (by decide) _)); with_reducible exact Fq.Kp.refl _ _), unhide HB⟩
theorem md_r7 {k : Nat} (hT : T.size = 231) (s0 : T[0]? = some (.pointer (some ⟨bm, 0, none⟩))) (h5 : w.cell? ⟨bm, 4, none⟩ = some (.int .i64 (k : Nat))) (hf : w.frozen? ⟨bm, 4, none⟩ = false) (hk : k ≤ 10000000)
  (hQ : ∀ T', (Fq.Kp 11 T T') → Q .normal ⟨T', []⟩ (w.setCell ⟨bm, 4, none⟩ (.int .i64 ((k + 1 : Nat) : Int)))) : (Fq.reg Try.f41 7).wp Try.prog Q ⟨T, []⟩ w := by
 have a0 := fun h => Fq.el s0 h
 have d0 := Fq.gd s0
 have hu : undef = Value.tuple #[] := rfl
 have HQ := hide hQ
 clear hQ
 conv => arg 2; whnf
 have hw0 : IntKind.i64.wrap ((k : Int) + 1) = (k : Int) + 1 := by rw [IntKind.wrap_i64]; omega
 have hc : ((k + 1 : Nat) : Int) = (k : Int) + 1 := by omega
 rw [hc] at HQ
 go_wp2_with fail
 exact (unhide HQ) _ (by (repeat (with_reducible refine Fq.Kp.set ?_ (by decide) _)); with_reducible exact Fq.Kp.refl _ _)
theorem md_r8 {b3 k5 : Nat} {ka : Int} {v2 : Value} (hT : T.size = 231) (s2 : T[2]? = some (.pointer (some ⟨g, k5, none⟩))) (s3 : T[3]? = some (.pointer (some ⟨b3, 0, none⟩))) (y12 : w.cell? ⟨b3, 12, none⟩ = some (.int .i64 ka)) (h2 : w.cell? ⟨g, k5 + 2, none⟩ = some v2) (hf : w.frozen? ⟨g, k5 + 2, none⟩ = false)
  (hQ : ∀ T', (Fq.Kp 11 T T') → Q .normal ⟨T', []⟩ (w.setCell ⟨g, k5 + 2, none⟩ (.int .i64 ka))) : (Fq.reg Try.f41 8).wp Try.prog Q ⟨T, []⟩ w := by
 have a2 := fun h => Fq.el s2 h
 have d2 := Fq.gd s2
 have a3 := fun h => Fq.el s3 h
 have d3 := Fq.gd s3
 have hu : undef = Value.tuple #[] := rfl
 have HQ := hide hQ
 clear hQ
 conv => arg 2; whnf
 go_wp2_with fail
 exact (unhide HQ) _ (by (repeat (with_reducible refine Fq.Kp.set ?_ (by decide) _)); with_reducible exact Fq.Kp.refl _ _)
theorem md_r9 {b3 : Nat} {ka : Int} (hT : T.size = 231) (s0 : T[0]? = some (.pointer (some ⟨bm, 0, none⟩))) (s3 : T[3]? = some (.pointer (some ⟨b3, 0, none⟩))) {R : World → Prop} (y12 : w.cell? ⟨b3, 12, none⟩ = some (.int .i64 ka)) (hc : Calls Try.prog 77 #[.pointer (some ⟨bm, 0, none⟩), .int .i64 1, .int .i64 ka, .int .i64 0, .int .i64 0, .int .i64 0] w fun r w' => r = .returned (.tuple #[]) ∧ R w')
  (hQ : ∀ T' w', (Fq.Kp 11 T T' ∧ R w') → Q .normal ⟨T', []⟩ w') : (Fq.reg Try.f41 9).wp Try.prog Q ⟨T, []⟩ w := by
 have a0 := fun h => Fq.el s0 h
 have d0 := Fq.gd s0
 have a3 := fun h => Fq.el s3 h
 have d3 := Fq.gd s3
 have hu : undef = Value.tuple #[] := rfl
 have HQ := hide hQ
 clear hQ
 conv => arg 2; whnf
 have HC := hide hc
 clear hc
 go_wp2_with (with_reducible refine (Calls.mono (unhide HC) ?_); rintro r w2 ⟨rfl, hb2⟩; have HB := hide hb2; clear hb2)
 exact (unhide HQ) _ _ ⟨(by (repeat (with_reducible refine Fq.Kp.set ?_ (by decide) _)); with_reducible exact Fq.Kp.refl _ _), unhide HB⟩
theorem md_r10 {b4 : Nat} {ck : Int} {VB : Bool} (hT : T.size = 231) (s4 : T[4]? = some (.pointer (some ⟨b4, 0, none⟩))) (x0 : w.cell? ⟨b4, 0, none⟩ = some (.int .i64 ck)) (hVB : VB = decide (ck = 3))
  (hQ : ∀ T', (Fq.Kp 11 T T' ∧ T'[62]? = some (.bool VB)) → Q .normal ⟨T', []⟩ (w)) : (Fq.reg Try.f41 10).wp Try.prog Q ⟨T, []⟩ w := by
 have a4 := fun h => Fq.el s4 h
 have d4 := Fq.gd s4
 have hu : undef = Value.tuple #[] := rfl
 have HQ := hide hQ
 clear hQ
 conv => arg 2; whnf
 by_cases hR : ck = 3
 · have HV3 := hide (show VB = true by rw [hVB, decide_eq_true hR])
   have b0 : (ck == 3) = true := by simp [hR]
   clear hVB hR
   go_wp2_with fail
   exact (unhide HQ) _ ⟨(by (repeat (with_reducible refine Fq.Kp.set ?_ (by decide) _)); with_reducible exact Fq.Kp.refl _ _), (Fq.set_at _ (by simp [hT]) _).trans (by rw [unhide HV3] <;> rfl)⟩
 · have HV3 := hide (show VB = false by rw [hVB, decide_eq_false hR])
   have b0 : (ck == 3) = false := by simpa using hR
   clear hVB hR
   go_wp2_with fail
   exact (unhide HQ) _ ⟨(by (repeat (with_reducible refine Fq.Kp.set ?_ (by decide) _)); with_reducible exact Fq.Kp.refl _ _), (Fq.set_at _ (by simp [hT]) _).trans (by rw [unhide HV3] <;> rfl)⟩
theorem md_r13 {b4 : Nat} {ck : Int} {VB : Bool} (hT : T.size = 231) (s4 : T[4]? = some (.pointer (some ⟨b4, 0, none⟩))) (x0 : w.cell? ⟨b4, 0, none⟩ = some (.int .i64 ck)) (hVB : VB = decide (ck = 4))
  (hQ : ∀ T', (Fq.Kp 11 T T' ∧ T'[82]? = some (.bool VB)) → Q .normal ⟨T', []⟩ (w)) : (Fq.reg Try.f41 13).wp Try.prog Q ⟨T, []⟩ w := by
 have a4 := fun h => Fq.el s4 h
 have d4 := Fq.gd s4
 have hu : undef = Value.tuple #[] := rfl
 have HQ := hide hQ
 clear hQ
 conv => arg 2; whnf
 by_cases hR : ck = 4
 · have HV3 := hide (show VB = true by rw [hVB, decide_eq_true hR])
   have b0 : (ck == 4) = true := by simp [hR]
   clear hVB hR
   go_wp2_with fail
   exact (unhide HQ) _ ⟨(by (repeat (with_reducible refine Fq.Kp.set ?_ (by decide) _)); with_reducible exact Fq.Kp.refl _ _), (Fq.set_at _ (by simp [hT]) _).trans (by rw [unhide HV3] <;> rfl)⟩
 · have HV3 := hide (show VB = false by rw [hVB, decide_eq_false hR])
   have b0 : (ck == 4) = false := by simpa using hR
   clear hVB hR
   go_wp2_with fail
   exact (unhide HQ) _ ⟨(by (repeat (with_reducible refine Fq.Kp.set ?_ (by decide) _)); with_reducible exact Fq.Kp.refl _ _), (Fq.set_at _ (by simp [hT]) _).trans (by rw [unhide HV3] <;> rfl)⟩
theorem md_r21 {b4 : Nat} {ck : Int} {VB : Bool} (hT : T.size = 231) (s4 : T[4]? = some (.pointer (some ⟨b4, 0, none⟩))) (x0 : w.cell? ⟨b4, 0, none⟩ = some (.int .i64 ck)) (hVB : VB = decide (ck = 2))
  (hQ : ∀ T', (Fq.Kp 11 T T' ∧ T'[124]? = some (.bool VB)) → Q .normal ⟨T', []⟩ (w)) : (Fq.reg Try.f41 21).wp Try.prog Q ⟨T, []⟩ w := by
 have a4 := fun h => Fq.el s4 h
 have d4 := Fq.gd s4
 have hu : undef = Value.tuple #[] := rfl
 have HQ := hide hQ
 clear hQ
 conv => arg 2; whnf
 by_cases hR : ck = 2
 · have HV3 := hide (show VB = true by rw [hVB, decide_eq_true hR])
   have b0 : (ck == 2) = true := by simp [hR]
   clear hVB hR
   go_wp2_with fail
   exact (unhide HQ) _ ⟨(by (repeat (with_reducible refine Fq.Kp.set ?_ (by decide) _)); with_reducible exact Fq.Kp.refl _ _), (Fq.set_at _ (by simp [hT]) _).trans (by rw [unhide HV3] <;> rfl)⟩
 · have HV3 := hide (show VB = false by rw [hVB, decide_eq_false hR])
   have b0 : (ck == 2) = false := by simpa using hR
   clear hVB hR
   go_wp2_with fail
   exact (unhide HQ) _ ⟨(by (repeat (with_reducible refine Fq.Kp.set ?_ (by decide) _)); with_reducible exact Fq.Kp.refl _ _), (Fq.set_at _ (by simp [hT]) _).trans (by rw [unhide HV3] <;> rfl)⟩
theorem md_r11 {b4 : Nat} {il ic el ec na ac nt xc ne lc : Nat} {ck cv cf ik inn ek en : Int} {ia ea aa xa la : Option Addr} (hT : T.size = 231) (s0 : T[0]? = some (.pointer (some ⟨bm, 0, none⟩))) (s4 : T[4]? = some (.pointer (some ⟨b4, 0, none⟩))) {R : World → Prop} (x0 : w.cell? ⟨b4, 0, none⟩ = some (.int .i64 ck)) (x1 : w.cell? ⟨b4, 1, none⟩ = some (.int .i64 cv)) (x2 : w.cell? ⟨b4, 2, none⟩ = some (.int .i64 cf)) (x3 : w.cell? ⟨b4, 3, none⟩ = some (.int .i64 ik)) (x4 : w.cell? ⟨b4, 4, none⟩ = some (.int .i64 inn)) (x5 : w.cell? ⟨b4, 5, none⟩ = some (.slice ia il ic)) (x6 : w.cell? ⟨b4, 6, none⟩ = some (.int .i64 ek)) (x7 : w.cell? ⟨b4, 7, none⟩ = some (.int .i64 en)) (x8 : w.cell? ⟨b4, 8, none⟩ = some (.slice ea el ec)) (x9 : w.cell? ⟨b4, 9, none⟩ = some (.slice aa na ac)) (x10 : w.cell? ⟨b4, 10, none⟩ = some (.slice xa nt xc)) (x11 : w.cell? ⟨b4, 11, none⟩ = some (.slice la ne lc)) (hc : Calls Try.prog 78 #[.pointer (some ⟨bm, 0, none⟩), .agg #[.int .i64 ck, .int .i64 cv, .int .i64 cf, .int .i64 ik, .int .i64 inn, .slice ia il ic, .int .i64 ek, .int .i64 en, .slice ea el ec, .slice aa na ac, .slice xa nt xc, .slice la ne lc]] w fun r w' => r = .returned (.tuple #[]) ∧ R w')
  (hQ : ∀ T' w', (Fq.Kp 11 T T' ∧ R w') → Q .normal ⟨T', []⟩ w') : (Fq.reg Try.f41 11).wp Try.prog Q ⟨T, []⟩ w := by
 have a0 := fun h => Fq.el s0 h
 have d0 := Fq.gd s0
 have a4 := fun h => Fq.el s4 h
 have d4 := Fq.gd s4
 have hu : undef = Value.tuple #[] := rfl
 have HQ := hide hQ
 clear hQ
 conv => arg 2; whnf
 have HC := hide hc
 clear hc
 go_wp2_with (with_reducible refine (Calls.mono (unhide HC) ?_); rintro r w2 ⟨rfl, hb2⟩; have HB := hide hb2; clear hb2)
 exact (unhide HQ) _ _ ⟨(by (repeat (with_reducible refine Fq.Kp.set ?_ (by decide) _)); with_reducible exact Fq.Kp.refl _ _), unhide HB⟩
theorem md_r14 (hT : T.size = 231)
  (hQ : ∀ T', (Fq.Kp 5 T T' ∧ T'[5]? = some (.int .i64 0)) → Q .normal ⟨T', []⟩ (w)) : (Fq.reg Try.f41 14).wp Try.prog Q ⟨T, []⟩ w := by
 have hu : undef = Value.tuple #[] := rfl
 have HQ := hide hQ
 clear hQ
 conv => arg 2; whnf
 go_wp2_with fail
 exact (unhide HQ) _ ⟨(by (repeat (with_reducible refine Fq.Kp.set ?_ (by decide) _)); with_reducible exact Fq.Kp.refl _ _), Fq.set_at _ (by simp [hT]) _⟩
theorem md_r17 {k : Nat} (hT : T.size = 231) (s0 : T[0]? = some (.pointer (some ⟨bm, 0, none⟩))) (h5 : w.cell? ⟨bm, 2, none⟩ = some (.int .i64 (k : Nat))) (hf : w.frozen? ⟨bm, 2, none⟩ = false) (hk : k ≤ 10000000)
  (hQ : ∀ T', (Fq.Kp 11 T T') → Q .normal ⟨T', []⟩ (w.setCell ⟨bm, 2, none⟩ (.int .i64 ((k + 1 : Nat) : Int)))) : (Fq.reg Try.f41 17).wp Try.prog Q ⟨T, []⟩ w := by
 have a0 := fun h => Fq.el s0 h
 have d0 := Fq.gd s0
 have hu : undef = Value.tuple #[] := rfl
 have HQ := hide hQ
 clear hQ
 conv => arg 2; whnf
 have hw0 : IntKind.i64.wrap ((k : Int) + 1) = (k : Int) + 1 := by rw [IntKind.wrap_i64]; omega
 have hc : ((k + 1 : Nat) : Int) = (k : Int) + 1 := by omega
 rw [hc] at HQ
 go_wp2_with fail
 exact (unhide HQ) _ (by (repeat (with_reducible refine Fq.Kp.set ?_ (by decide) _)); with_reducible exact Fq.Kp.refl _ _)
theorem md_r18 {b3 : Nat} {ka z : Int} (hT : T.size = 231) (s0 : T[0]? = some (.pointer (some ⟨bm, 0, none⟩))) (s3 : T[3]? = some (.pointer (some ⟨b3, 0, none⟩))) (s5 : T[5]? = some (.int .i64 z)) {R : World → Prop} (y12 : w.cell? ⟨b3, 12, none⟩ = some (.int .i64 ka)) (hc : Calls Try.prog 77 #[.pointer (some ⟨bm, 0, none⟩), .int .i64 3, .int .i64 ka, .int .i64 0, .int .i64 0, .int .i64 z] w fun r w' => r = .returned (.tuple #[]) ∧ R w')
  (hQ : ∀ T' w', (Fq.Kp 11 T T' ∧ R w') → Q .normal ⟨T', []⟩ w') : (Fq.reg Try.f41 18).wp Try.prog Q ⟨T, []⟩ w := by
 have a0 := fun h => Fq.el s0 h
 have d0 := Fq.gd s0
 have a3 := fun h => Fq.el s3 h
 have d3 := Fq.gd s3
 have a5 := fun h => Fq.el s5 h
 have d5 := Fq.gd s5
 have hu : undef = Value.tuple #[] := rfl
 have HQ := hide hQ
 clear hQ
 conv => arg 2; whnf
 have HC := hide hc
 clear hc
 go_wp2_with (with_reducible refine (Calls.mono (unhide HC) ?_); rintro r w2 ⟨rfl, hb2⟩; have HB := hide hb2; clear hb2)
 exact (unhide HQ) _ _ ⟨(by (repeat (with_reducible refine Fq.Kp.set ?_ (by decide) _)); with_reducible exact Fq.Kp.refl _ _), unhide HB⟩
theorem md_r19 {b3 b4 : Nat} {ka cv z : Int} (hT : T.size = 231) (s0 : T[0]? = some (.pointer (some ⟨bm, 0, none⟩))) (s3 : T[3]? = some (.pointer (some ⟨b3, 0, none⟩))) (s4 : T[4]? = some (.pointer (some ⟨b4, 0, none⟩))) (s5 : T[5]? = some (.int .i64 z)) {R : World → Prop} (y12 : w.cell? ⟨b3, 12, none⟩ = some (.int .i64 ka)) (x1 : w.cell? ⟨b4, 1, none⟩ = some (.int .i64 cv)) (hc : Calls Try.prog 79 #[.pointer (some ⟨bm, 0, none⟩), .int .i64 ka, .int .i64 cv, .int .i64 0, .int .i64 z] w fun r w' => r = .returned (.tuple #[]) ∧ R w')
  (hQ : ∀ T' w', (Fq.Kp 11 T T' ∧ R w') → Q .normal ⟨T', []⟩ w') : (Fq.reg Try.f41 19).wp Try.prog Q ⟨T, []⟩ w := by
 have a0 := fun h => Fq.el s0 h
 have d0 := Fq.gd s0
 have a3 := fun h => Fq.el s3 h
 have d3 := Fq.gd s3
 have a4 := fun h => Fq.el s4 h
 have d4 := Fq.gd s4
 have a5 := fun h => Fq.el s5 h
 have d5 := Fq.gd s5
 have hu : undef = Value.tuple #[] := rfl
 have HQ := hide hQ
 clear hQ
 conv => arg 2; whnf
 have HC := hide hc
 clear hc
 go_wp2_with (with_reducible refine (Calls.mono (unhide HC) ?_); rintro r w2 ⟨rfl, hb2⟩; have HB := hide hb2; clear hb2)
 exact (unhide HQ) _ _ ⟨(by (repeat (with_reducible refine Fq.Kp.set ?_ (by decide) _)); with_reducible exact Fq.Kp.refl _ _), unhide HB⟩
theorem md_r20 (hT : T.size = 231)
  (hQ : ∀ T', (Fq.Kp 6 T T' ∧ T'[6]? = some (.int .i64 0)) → Q .normal ⟨T', []⟩ (w)) : (Fq.reg Try.f41 20).wp Try.prog Q ⟨T, []⟩ w := by
 have hu : undef = Value.tuple #[] := rfl
 have HQ := hide hQ
 clear hQ
 conv => arg 2; whnf
 go_wp2_with fail
 exact (unhide HQ) _ ⟨(by (repeat (with_reducible refine Fq.Kp.set ?_ (by decide) _)); with_reducible exact Fq.Kp.refl _ _), Fq.set_at _ (by simp [hT]) _⟩
theorem md_r22 {b4 : Nat} {z : Int} {ok : Bool} {il ic : Nat} {ik inn : Int} {ia : Option Addr} (hT : T.size = 231) (s0 : T[0]? = some (.pointer (some ⟨bm, 0, none⟩))) (s4 : T[4]? = some (.pointer (some ⟨b4, 0, none⟩))) {R : World → Prop} (x3 : w.cell? ⟨b4, 3, none⟩ = some (.int .i64 ik)) (x4 : w.cell? ⟨b4, 4, none⟩ = some (.int .i64 inn)) (x5 : w.cell? ⟨b4, 5, none⟩ = some (.slice ia il ic)) (hc : Calls Try.prog 80 #[.pointer (some ⟨bm, 0, none⟩), .agg #[.int .i64 ik, .int .i64 inn, .slice ia il ic]] w fun r w' => r = .returned (.tuple #[.int .i64 z, .bool ok]) ∧ R w')
  (hQ : ∀ T' w', (Fq.Kp 7 T T' ∧ T'[7]? = some (.int .i64 z) ∧ T'[8]? = some (.bool ok) ∧ R w') → Q .normal ⟨T', []⟩ w') : (Fq.reg Try.f41 22).wp Try.prog Q ⟨T, []⟩ w := by
 have a0 := fun h => Fq.el s0 h
 have d0 := Fq.gd s0
 have a4 := fun h => Fq.el s4 h
 have d4 := Fq.gd s4
 have hu : undef = Value.tuple #[] := rfl
 have HQ := hide hQ
 clear hQ
 conv => arg 2; whnf
 have HC := hide hc
 clear hc
 go_wp2_with (with_reducible refine (Calls.mono (unhide HC) ?_); rintro r w2 ⟨rfl, hb2⟩; have HB := hide hb2; clear hb2)
 exact (unhide HQ) _ _ ⟨(by (repeat (with_reducible refine Fq.Kp.set ?_ (by decide) _)); with_reducible exact Fq.Kp.refl _ _), by simp [hT], by simp [hT], unhide HB⟩
theorem md_r23 {ok : Bool} (hT : T.size = 231) (s8 : T[8]? = some (.bool ok))
  (hQ : ∀ T', (Fq.Kp 11 T T' ∧ T'[133]? = some (.bool (!ok))) → Q .normal ⟨T', []⟩ (w)) : (Fq.reg Try.f41 23).wp Try.prog Q ⟨T, []⟩ w := by
 have a8 := fun h => Fq.el s8 h
 have d8 := Fq.gd s8
 have hu : undef = Value.tuple #[] := rfl
 have HQ := hide hQ
 clear hQ
 conv => arg 2; whnf
 go_wp2_with fail
 exact (unhide HQ) _ ⟨(by (repeat (with_reducible refine Fq.Kp.set ?_ (by decide) _)); with_reducible exact Fq.Kp.refl _ _), Fq.set_at _ (by simp [hT]) _⟩
theorem md_r24 {z : Int} (hT : T.size = 231) (s7 : T[7]? = some (.int .i64 z))
  (hQ : ∀ T', (Fq.Kp 6 T T' ∧ T'[6]? = some (.int .i64 z)) → Q .normal ⟨T', []⟩ (w)) : (Fq.reg Try.f41 24).wp Try.prog Q ⟨T, []⟩ w := by
 have a7 := fun h => Fq.el s7 h
 have d7 := Fq.gd s7
 have hu : undef = Value.tuple #[] := rfl
 have HQ := hide hQ
 clear hQ
 conv => arg 2; whnf
 go_wp2_with fail
 exact (unhide HQ) _ ⟨(by (repeat (with_reducible refine Fq.Kp.set ?_ (by decide) _)); with_reducible exact Fq.Kp.refl _ _), Fq.set_at _ (by simp [hT]) _⟩
theorem md_r25 {b4 : Nat} {z : Int} {ok : Bool} {el ec : Nat} {ek en : Int} {ea : Option Addr} (hT : T.size = 231) (s0 : T[0]? = some (.pointer (some ⟨bm, 0, none⟩))) (s4 : T[4]? = some (.pointer (some ⟨b4, 0, none⟩))) {R : World → Prop} (x6 : w.cell? ⟨b4, 6, none⟩ = some (.int .i64 ek)) (x7 : w.cell? ⟨b4, 7, none⟩ = some (.int .i64 en)) (x8 : w.cell? ⟨b4, 8, none⟩ = some (.slice ea el ec)) (hc : Calls Try.prog 80 #[.pointer (some ⟨bm, 0, none⟩), .agg #[.int .i64 ek, .int .i64 en, .slice ea el ec]] w fun r w' => r = .returned (.tuple #[.int .i64 z, .bool ok]) ∧ R w')
  (hQ : ∀ T' w', (Fq.Kp 9 T T' ∧ T'[9]? = some (.int .i64 z) ∧ T'[10]? = some (.bool ok) ∧ R w') → Q .normal ⟨T', []⟩ w') : (Fq.reg Try.f41 25).wp Try.prog Q ⟨T, []⟩ w := by
 have a0 := fun h => Fq.el s0 h
 have d0 := Fq.gd s0
 have a4 := fun h => Fq.el s4 h
 have d4 := Fq.gd s4
 have hu : undef = Value.tuple #[] := rfl
 have HQ := hide hQ
 clear hQ
 conv => arg 2; whnf
 have HC := hide hc
 clear hc
 go_wp2_with (with_reducible refine (Calls.mono (unhide HC) ?_); rintro r w2 ⟨rfl, hb2⟩; have HB := hide hb2; clear hb2)
 exact (unhide HQ) _ _ ⟨(by (repeat (with_reducible refine Fq.Kp.set ?_ (by decide) _)); with_reducible exact Fq.Kp.refl _ _), by simp [hT], by simp [hT], unhide HB⟩
theorem md_r26 {ok : Bool} (hT : T.size = 231) (s10 : T[10]? = some (.bool ok))
  (hQ : ∀ T', (Fq.Kp 11 T T' ∧ T'[143]? = some (.bool (!ok))) → Q .normal ⟨T', []⟩ (w)) : (Fq.reg Try.f41 26).wp Try.prog Q ⟨T, []⟩ w := by
 have a10 := fun h => Fq.el s10 h
 have d10 := Fq.gd s10
 have hu : undef = Value.tuple #[] := rfl
 have HQ := hide hQ
 clear hQ
 conv => arg 2; whnf
 go_wp2_with fail
 exact (unhide HQ) _ ⟨(by (repeat (with_reducible refine Fq.Kp.set ?_ (by decide) _)); with_reducible exact Fq.Kp.refl _ _), Fq.set_at _ (by simp [hT]) _⟩
theorem md_r27 {b4 : Nat} {ck : Int} (hT : T.size = 231) (s4 : T[4]? = some (.pointer (some ⟨b4, 0, none⟩))) (x0 : w.cell? ⟨b4, 0, none⟩ = some (.int .i64 ck))
  (hQ : ∀ T', (Fq.Kp 11 T T' ∧ T'[145]? = some (.int .i64 ck)) → Q .normal ⟨T', []⟩ (w)) : (Fq.reg Try.f41 27).wp Try.prog Q ⟨T, []⟩ w := by
 have a4 := fun h => Fq.el s4 h
 have d4 := Fq.gd s4
 have hu : undef = Value.tuple #[] := rfl
 have HQ := hide hQ
 clear hQ
 conv => arg 2; whnf
 go_wp2_with fail
 exact (unhide HQ) _ ⟨(by (repeat (with_reducible refine Fq.Kp.set ?_ (by decide) _)); with_reducible exact Fq.Kp.refl _ _), Fq.set_at _ (by simp [hT]) _⟩
theorem md_r28 {ck : Int} {VB : Bool} (hT : T.size = 231) (s145 : T[145]? = some (.int .i64 ck)) (hVB : VB = decide (ck = 1))
  (hQ : ∀ T', (Fq.Kp 11 T T' ∧ T'[146]? = some (.bool VB) ∧ T'[145]? = some (.int .i64 ck)) → Q .normal ⟨T', []⟩ (w)) : (Fq.reg Try.f41 28).wp Try.prog Q ⟨T, []⟩ w := by
 have a145 := fun h => Fq.el s145 h
 have d145 := Fq.gd s145
 have hu : undef = Value.tuple #[] := rfl
 have HQ := hide hQ
 clear hQ
 conv => arg 2; whnf
 by_cases hR : ck = 1
 · have HV3 := hide (show VB = true by rw [hVB, decide_eq_true hR])
   have b0 : (ck == 1) = true := by simp [hR]
   clear hVB hR
   go_wp2_with fail
   exact (unhide HQ) _ ⟨(by (repeat (with_reducible refine Fq.Kp.set ?_ (by decide) _)); with_reducible exact Fq.Kp.refl _ _), (Fq.set_at _ (by simp [hT]) _).trans (by rw [unhide HV3] <;> rfl), (by (repeat (with_reducible refine (Fq.set_ne _ (by decide) _).trans ?_)); exact s145)⟩
 · have HV3 := hide (show VB = false by rw [hVB, decide_eq_false hR])
   have b0 : (ck == 1) = false := by simpa using hR
   clear hVB hR
   go_wp2_with fail
   exact (unhide HQ) _ ⟨(by (repeat (with_reducible refine Fq.Kp.set ?_ (by decide) _)); with_reducible exact Fq.Kp.refl _ _), (Fq.set_at _ (by simp [hT]) _).trans (by rw [unhide HV3] <;> rfl), (by (repeat (with_reducible refine (Fq.set_ne _ (by decide) _).trans ?_)); exact s145)⟩
theorem md_r30 {ck : Int} {VB : Bool} (hT : T.size = 231) (s145 : T[145]? = some (.int .i64 ck)) (hVB : VB = decide (ck = 2))
  (hQ : ∀ T', (Fq.Kp 11 T T' ∧ T'[155]? = some (.bool VB) ∧ T'[145]? = some (.int .i64 ck)) → Q .normal ⟨T', []⟩ (w)) : (Fq.reg Try.f41 30).wp Try.prog Q ⟨T, []⟩ w := by
 have a145 := fun h => Fq.el s145 h
 have d145 := Fq.gd s145
 have hu : undef = Value.tuple #[] := rfl
 have HQ := hide hQ
 clear hQ
 conv => arg 2; whnf
 by_cases hR : ck = 2
 · have HV3 := hide (show VB = true by rw [hVB, decide_eq_true hR])
   have b0 : (ck == 2) = true := by simp [hR]
   clear hVB hR
   go_wp2_with fail
   exact (unhide HQ) _ ⟨(by (repeat (with_reducible refine Fq.Kp.set ?_ (by decide) _)); with_reducible exact Fq.Kp.refl _ _), (Fq.set_at _ (by simp [hT]) _).trans (by rw [unhide HV3] <;> rfl), (by (repeat (with_reducible refine (Fq.set_ne _ (by decide) _).trans ?_)); exact s145)⟩
 · have HV3 := hide (show VB = false by rw [hVB, decide_eq_false hR])
   have b0 : (ck == 2) = false := by simpa using hR
   clear hVB hR
   go_wp2_with fail
   exact (unhide HQ) _ ⟨(by (repeat (with_reducible refine Fq.Kp.set ?_ (by decide) _)); with_reducible exact Fq.Kp.refl _ _), (Fq.set_at _ (by simp [hT]) _).trans (by rw [unhide HV3] <;> rfl), (by (repeat (with_reducible refine (Fq.set_ne _ (by decide) _).trans ?_)); exact s145)⟩
theorem md_r34 {ck : Int} {VB : Bool} (hT : T.size = 231) (s145 : T[145]? = some (.int .i64 ck)) (hVB : VB = decide (ck = 5))
  (hQ : ∀ T', (Fq.Kp 11 T T' ∧ T'[181]? = some (.bool VB) ∧ T'[145]? = some (.int .i64 ck)) → Q .normal ⟨T', []⟩ (w)) : (Fq.reg Try.f41 34).wp Try.prog Q ⟨T, []⟩ w := by
 have a145 := fun h => Fq.el s145 h
 have d145 := Fq.gd s145
 have hu : undef = Value.tuple #[] := rfl
 have HQ := hide hQ
 clear hQ
 conv => arg 2; whnf
 by_cases hR : ck = 5
 · have HV3 := hide (show VB = true by rw [hVB, decide_eq_true hR])
   have b0 : (ck == 5) = true := by simp [hR]
   clear hVB hR
   go_wp2_with fail
   exact (unhide HQ) _ ⟨(by (repeat (with_reducible refine Fq.Kp.set ?_ (by decide) _)); with_reducible exact Fq.Kp.refl _ _), (Fq.set_at _ (by simp [hT]) _).trans (by rw [unhide HV3] <;> rfl), (by (repeat (with_reducible refine (Fq.set_ne _ (by decide) _).trans ?_)); exact s145)⟩
 · have HV3 := hide (show VB = false by rw [hVB, decide_eq_false hR])
   have b0 : (ck == 5) = false := by simpa using hR
   clear hVB hR
   go_wp2_with fail
   exact (unhide HQ) _ ⟨(by (repeat (with_reducible refine Fq.Kp.set ?_ (by decide) _)); with_reducible exact Fq.Kp.refl _ _), (Fq.set_at _ (by simp [hT]) _).trans (by rw [unhide HV3] <;> rfl), (by (repeat (with_reducible refine (Fq.set_ne _ (by decide) _).trans ?_)); exact s145)⟩
theorem md_r36 {ck : Int} {VB : Bool} (hT : T.size = 231) (s145 : T[145]? = some (.int .i64 ck)) (hVB : VB = decide (ck = 6))
  (hQ : ∀ T', (Fq.Kp 11 T T' ∧ T'[188]? = some (.bool VB) ∧ T'[145]? = some (.int .i64 ck)) → Q .normal ⟨T', []⟩ (w)) : (Fq.reg Try.f41 36).wp Try.prog Q ⟨T, []⟩ w := by
 have a145 := fun h => Fq.el s145 h
 have d145 := Fq.gd s145
 have hu : undef = Value.tuple #[] := rfl
 have HQ := hide hQ
 clear hQ
 conv => arg 2; whnf
 by_cases hR : ck = 6
 · have HV3 := hide (show VB = true by rw [hVB, decide_eq_true hR])
   have b0 : (ck == 6) = true := by simp [hR]
   clear hVB hR
   go_wp2_with fail
   exact (unhide HQ) _ ⟨(by (repeat (with_reducible refine Fq.Kp.set ?_ (by decide) _)); with_reducible exact Fq.Kp.refl _ _), (Fq.set_at _ (by simp [hT]) _).trans (by rw [unhide HV3] <;> rfl), (by (repeat (with_reducible refine (Fq.set_ne _ (by decide) _).trans ?_)); exact s145)⟩
 · have HV3 := hide (show VB = false by rw [hVB, decide_eq_false hR])
   have b0 : (ck == 6) = false := by simpa using hR
   clear hVB hR
   go_wp2_with fail
   exact (unhide HQ) _ ⟨(by (repeat (with_reducible refine Fq.Kp.set ?_ (by decide) _)); with_reducible exact Fq.Kp.refl _ _), (Fq.set_at _ (by simp [hT]) _).trans (by rw [unhide HV3] <;> rfl), (by (repeat (with_reducible refine (Fq.set_ne _ (by decide) _).trans ?_)); exact s145)⟩
theorem md_r40 {ck : Int} {VB : Bool} (hT : T.size = 231) (s145 : T[145]? = some (.int .i64 ck)) (hVB : VB = decide (ck = 7))
  (hQ : ∀ T', (Fq.Kp 11 T T' ∧ T'[210]? = some (.bool VB) ∧ T'[145]? = some (.int .i64 ck)) → Q .normal ⟨T', []⟩ (w)) : (Fq.reg Try.f41 40).wp Try.prog Q ⟨T, []⟩ w := by
 have a145 := fun h => Fq.el s145 h
 have d145 := Fq.gd s145
 have hu : undef = Value.tuple #[] := rfl
 have HQ := hide hQ
 clear hQ
 conv => arg 2; whnf
 by_cases hR : ck = 7
 · have HV3 := hide (show VB = true by rw [hVB, decide_eq_true hR])
   have b0 : (ck == 7) = true := by simp [hR]
   clear hVB hR
   go_wp2_with fail
   exact (unhide HQ) _ ⟨(by (repeat (with_reducible refine Fq.Kp.set ?_ (by decide) _)); with_reducible exact Fq.Kp.refl _ _), (Fq.set_at _ (by simp [hT]) _).trans (by rw [unhide HV3] <;> rfl), (by (repeat (with_reducible refine (Fq.set_ne _ (by decide) _).trans ?_)); exact s145)⟩
 · have HV3 := hide (show VB = false by rw [hVB, decide_eq_false hR])
   have b0 : (ck == 7) = false := by simpa using hR
   clear hVB hR
   go_wp2_with fail
   exact (unhide HQ) _ ⟨(by (repeat (with_reducible refine Fq.Kp.set ?_ (by decide) _)); with_reducible exact Fq.Kp.refl _ _), (Fq.set_at _ (by simp [hT]) _).trans (by rw [unhide HV3] <;> rfl), (by (repeat (with_reducible refine (Fq.set_ne _ (by decide) _).trans ?_)); exact s145)⟩
theorem md_r29 {b3 b4 : Nat} {ka cv z : Int} (hT : T.size = 231) (s0 : T[0]? = some (.pointer (some ⟨bm, 0, none⟩))) (s3 : T[3]? = some (.pointer (some ⟨b3, 0, none⟩))) (s4 : T[4]? = some (.pointer (some ⟨b4, 0, none⟩))) (s9 : T[9]? = some (.int .i64 z)) {R : World → Prop} (y12 : w.cell? ⟨b3, 12, none⟩ = some (.int .i64 ka)) (x1 : w.cell? ⟨b4, 1, none⟩ = some (.int .i64 cv)) (hc : Calls Try.prog 79 #[.pointer (some ⟨bm, 0, none⟩), .int .i64 ka, .int .i64 cv, .int .i64 0, .int .i64 z] w fun r w' => r = .returned (.tuple #[]) ∧ R w')
  (hQ : ∀ T' w', (Fq.Kp 11 T T' ∧ R w') → Q .normal ⟨T', []⟩ w') : (Fq.reg Try.f41 29).wp Try.prog Q ⟨T, []⟩ w := by
 have a0 := fun h => Fq.el s0 h
 have d0 := Fq.gd s0
 have a3 := fun h => Fq.el s3 h
 have d3 := Fq.gd s3
 have a4 := fun h => Fq.el s4 h
 have d4 := Fq.gd s4
 have a9 := fun h => Fq.el s9 h
 have d9 := Fq.gd s9
 have hu : undef = Value.tuple #[] := rfl
 have HQ := hide hQ
 clear hQ
 conv => arg 2; whnf
 have HC := hide hc
 clear hc
 go_wp2_with (with_reducible refine (Calls.mono (unhide HC) ?_); rintro r w2 ⟨rfl, hb2⟩; have HB := hide hb2; clear hb2)
 exact (unhide HQ) _ _ ⟨(by (repeat (with_reducible refine Fq.Kp.set ?_ (by decide) _)); with_reducible exact Fq.Kp.refl _ _), unhide HB⟩
theorem md_r32 {b3 b4 : Nat} {ka cv ix z : Int} (hT : T.size = 231) (s0 : T[0]? = some (.pointer (some ⟨bm, 0, none⟩))) (s3 : T[3]? = some (.pointer (some ⟨b3, 0, none⟩))) (s4 : T[4]? = some (.pointer (some ⟨b4, 0, none⟩))) (s6 : T[6]? = some (.int .i64 ix)) (s9 : T[9]? = some (.int .i64 z)) {R : World → Prop} (y12 : w.cell? ⟨b3, 12, none⟩ = some (.int .i64 ka)) (x1 : w.cell? ⟨b4, 1, none⟩ = some (.int .i64 cv)) (hc : Calls Try.prog 79 #[.pointer (some ⟨bm, 0, none⟩), .int .i64 ka, .int .i64 cv, .int .i64 ix, .int .i64 z] w fun r w' => r = .returned (.tuple #[]) ∧ R w')
  (hQ : ∀ T' w', (Fq.Kp 11 T T' ∧ R w') → Q .normal ⟨T', []⟩ w') : (Fq.reg Try.f41 32).wp Try.prog Q ⟨T, []⟩ w := by
 have a0 := fun h => Fq.el s0 h
 have d0 := Fq.gd s0
 have a3 := fun h => Fq.el s3 h
 have d3 := Fq.gd s3
 have a4 := fun h => Fq.el s4 h
 have d4 := Fq.gd s4
 have a6 := fun h => Fq.el s6 h
 have d6 := Fq.gd s6
 have a9 := fun h => Fq.el s9 h
 have d9 := Fq.gd s9
 have hu : undef = Value.tuple #[] := rfl
 have HQ := hide hQ
 clear hQ
 conv => arg 2; whnf
 have HC := hide hc
 clear hc
 go_wp2_with (with_reducible refine (Calls.mono (unhide HC) ?_); rintro r w2 ⟨rfl, hb2⟩; have HB := hide hb2; clear hb2)
 exact (unhide HQ) _ _ ⟨(by (repeat (with_reducible refine Fq.Kp.set ?_ (by decide) _)); with_reducible exact Fq.Kp.refl _ _), unhide HB⟩
theorem md_r33 {b3 : Nat} {ka : Int} (hT : T.size = 231) (s0 : T[0]? = some (.pointer (some ⟨bm, 0, none⟩))) (s3 : T[3]? = some (.pointer (some ⟨b3, 0, none⟩))) {R : World → Prop} (y12 : w.cell? ⟨b3, 12, none⟩ = some (.int .i64 ka)) (hc : Calls Try.prog 76 #[.pointer (some ⟨bm, 0, none⟩), .int .i64 ka, .int .i64 3] w fun r w' => r = .returned (.tuple #[]) ∧ R w')
  (hQ : ∀ T' w', (Fq.Kp 11 T T' ∧ R w') → Q .normal ⟨T', []⟩ w') : (Fq.reg Try.f41 33).wp Try.prog Q ⟨T, []⟩ w := by
 have a0 := fun h => Fq.el s0 h
 have d0 := Fq.gd s0
 have a3 := fun h => Fq.el s3 h
 have d3 := Fq.gd s3
 have hu : undef = Value.tuple #[] := rfl
 have HQ := hide hQ
 clear hQ
 conv => arg 2; whnf
 have HC := hide hc
 clear hc
 go_wp2_with (with_reducible refine (Calls.mono (unhide HC) ?_); rintro r w2 ⟨rfl, hb2⟩; have HB := hide hb2; clear hb2)
 exact (unhide HQ) _ _ ⟨(by (repeat (with_reducible refine Fq.Kp.set ?_ (by decide) _)); with_reducible exact Fq.Kp.refl _ _), unhide HB⟩
theorem md_r35 {b3 : Nat} {ka z : Int} (hT : T.size = 231) (s0 : T[0]? = some (.pointer (some ⟨bm, 0, none⟩))) (s3 : T[3]? = some (.pointer (some ⟨b3, 0, none⟩))) (s9 : T[9]? = some (.int .i64 z)) {R : World → Prop} (y12 : w.cell? ⟨b3, 12, none⟩ = some (.int .i64 ka)) (hc : Calls Try.prog 77 #[.pointer (some ⟨bm, 0, none⟩), .int .i64 4, .int .i64 ka, .int .i64 0, .int .i64 0, .int .i64 z] w fun r w' => r = .returned (.tuple #[]) ∧ R w')
  (hQ : ∀ T' w', (Fq.Kp 11 T T' ∧ R w') → Q .normal ⟨T', []⟩ w') : (Fq.reg Try.f41 35).wp Try.prog Q ⟨T, []⟩ w := by
 have a0 := fun h => Fq.el s0 h
 have d0 := Fq.gd s0
 have a3 := fun h => Fq.el s3 h
 have d3 := Fq.gd s3
 have a9 := fun h => Fq.el s9 h
 have d9 := Fq.gd s9
 have hu : undef = Value.tuple #[] := rfl
 have HQ := hide hQ
 clear hQ
 conv => arg 2; whnf
 have HC := hide hc
 clear hc
 go_wp2_with (with_reducible refine (Calls.mono (unhide HC) ?_); rintro r w2 ⟨rfl, hb2⟩; have HB := hide hb2; clear hb2)
 exact (unhide HQ) _ _ ⟨(by (repeat (with_reducible refine Fq.Kp.set ?_ (by decide) _)); with_reducible exact Fq.Kp.refl _ _), unhide HB⟩
theorem md_r37 {z : Int} {VB : Bool} (hT : T.size = 231) (s9 : T[9]? = some (.int .i64 z)) (hVB : VB = decide (z ≠ 0))
  (hQ : ∀ T', (Fq.Kp 11 T T' ∧ T'[191]? = some (.bool VB)) → Q .normal ⟨T', []⟩ (w)) : (Fq.reg Try.f41 37).wp Try.prog Q ⟨T, []⟩ w := by
 have a9 := fun h => Fq.el s9 h
 have d9 := Fq.gd s9
 have hu : undef = Value.tuple #[] := rfl
 have HQ := hide hQ
 clear hQ
 conv => arg 2; whnf
 by_cases hR : z = 0
 · have HV3 := hide (show VB = false by rw [hVB, decide_eq_false (fun h => h hR)])
   subst hR
   clear hVB
   go_wp2_with fail
   exact (unhide HQ) _ ⟨(by (repeat (with_reducible refine Fq.Kp.set ?_ (by decide) _)); with_reducible exact Fq.Kp.refl _ _), (Fq.set_at _ (by simp [hT]) _).trans (by rw [unhide HV3] <;> rfl)⟩
 · have HV3 := hide (show VB = true by rw [hVB, decide_eq_true hR])
   have b0 : (z != 0) = true := by simpa using hR
   clear hVB hR
   go_wp2_with fail
   exact (unhide HQ) _ ⟨(by (repeat (with_reducible refine Fq.Kp.set ?_ (by decide) _)); with_reducible exact Fq.Kp.refl _ _), (Fq.set_at _ (by simp [hT]) _).trans (by rw [unhide HV3] <;> rfl)⟩
theorem md_r41 {z : Int} {VB : Bool} (hT : T.size = 231) (s9 : T[9]? = some (.int .i64 z)) (hVB : VB = decide (z ≠ 0))
  (hQ : ∀ T', (Fq.Kp 11 T T' ∧ T'[213]? = some (.bool VB)) → Q .normal ⟨T', []⟩ (w)) : (Fq.reg Try.f41 41).wp Try.prog Q ⟨T, []⟩ w := by
 have a9 := fun h => Fq.el s9 h
 have d9 := Fq.gd s9
 have hu : undef = Value.tuple #[] := rfl
 have HQ := hide hQ
 clear hQ
 conv => arg 2; whnf
 by_cases hR : z = 0
 · have HV3 := hide (show VB = false by rw [hVB, decide_eq_false (fun h => h hR)])
   subst hR
   clear hVB
   go_wp2_with fail
   exact (unhide HQ) _ ⟨(by (repeat (with_reducible refine Fq.Kp.set ?_ (by decide) _)); with_reducible exact Fq.Kp.refl _ _), (Fq.set_at _ (by simp [hT]) _).trans (by rw [unhide HV3] <;> rfl)⟩
 · have HV3 := hide (show VB = true by rw [hVB, decide_eq_true hR])
   have b0 : (z != 0) = true := by simpa using hR
   clear hVB hR
   go_wp2_with fail
   exact (unhide HQ) _ ⟨(by (repeat (with_reducible refine Fq.Kp.set ?_ (by decide) _)); with_reducible exact Fq.Kp.refl _ _), (Fq.set_at _ (by simp [hT]) _).trans (by rw [unhide HV3] <;> rfl)⟩
theorem md_r38 {b3 b4 k5 a nt xc : Nat} {xa : Option Addr} (hT : T.size = 231) (s2 : T[2]? = some (.pointer (some ⟨g, k5, none⟩))) (s3 : T[3]? = some (.pointer (some ⟨b3, 0, none⟩))) (s4 : T[4]? = some (.pointer (some ⟨b4, 0, none⟩))) {R : World → Prop} (y12 : w.cell? ⟨b3, 12, none⟩ = some (.int .i64 (a : Nat))) (x10 : w.cell? ⟨b4, 10, none⟩ = some (.slice xa nt xc)) (ha : a ≤ 1000) (hc : Calls Try.prog 39 #[.pointer (some ⟨g, k5, none⟩), .slice xa nt xc, .int .i64 ((a : Int) + 1)] w fun r w' => r = .returned (.tuple #[]) ∧ R w')
  (hQ : ∀ T' w', (Fq.Kp 11 T T' ∧ R w') → Q .normal ⟨T', []⟩ w') : (Fq.reg Try.f41 38).wp Try.prog Q ⟨T, []⟩ w := by
 have a2 := fun h => Fq.el s2 h
 have d2 := Fq.gd s2
 have a3 := fun h => Fq.el s3 h
 have d3 := Fq.gd s3
 have a4 := fun h => Fq.el s4 h
 have d4 := Fq.gd s4
 have hu : undef = Value.tuple #[] := rfl
 have HQ := hide hQ
 clear hQ
 conv => arg 2; whnf
 have hw0 : IntKind.i64.wrap ((a : Int) + 1) = (a : Int) + 1 := by rw [IntKind.wrap_i64]; omega
 have HC := hide hc
 clear hc
 go_wp2_with (with_reducible refine (Calls.mono (unhide HC) ?_); rintro r w2 ⟨rfl, hb2⟩; have HB := hide hb2; clear hb2)
 exact (unhide HQ) _ _ ⟨(by (repeat (with_reducible refine Fq.Kp.set ?_ (by decide) _)); with_reducible exact Fq.Kp.refl _ _), unhide HB⟩
theorem md_r43 {b3 b4 k5 a nt xc : Nat} {xa : Option Addr} (hT : T.size = 231) (s2 : T[2]? = some (.pointer (some ⟨g, k5, none⟩))) (s3 : T[3]? = some (.pointer (some ⟨b3, 0, none⟩))) (s4 : T[4]? = some (.pointer (some ⟨b4, 0, none⟩))) {R : World → Prop} (y12 : w.cell? ⟨b3, 12, none⟩ = some (.int .i64 (a : Nat))) (x10 : w.cell? ⟨b4, 10, none⟩ = some (.slice xa nt xc)) (ha : a ≤ 1000) (hc : Calls Try.prog 39 #[.pointer (some ⟨g, k5, none⟩), .slice xa nt xc, .int .i64 ((a : Int) + 1)] w fun r w' => r = .returned (.tuple #[]) ∧ R w')
  (hQ : ∀ T' w', (Fq.Kp 11 T T' ∧ R w') → Q .normal ⟨T', []⟩ w') : (Fq.reg Try.f41 43).wp Try.prog Q ⟨T, []⟩ w := by
 have a2 := fun h => Fq.el s2 h
 have d2 := Fq.gd s2
 have a3 := fun h => Fq.el s3 h
 have d3 := Fq.gd s3
 have a4 := fun h => Fq.el s4 h
 have d4 := Fq.gd s4
 have hu : undef = Value.tuple #[] := rfl
 have HQ := hide hQ
 clear hQ
 conv => arg 2; whnf
 have hw0 : IntKind.i64.wrap ((a : Int) + 1) = (a : Int) + 1 := by rw [IntKind.wrap_i64]; omega
 have HC := hide hc
 clear hc
 go_wp2_with (with_reducible refine (Calls.mono (unhide HC) ?_); rintro r w2 ⟨rfl, hb2⟩; have HB := hide hb2; clear hb2)
 exact (unhide HQ) _ _ ⟨(by (repeat (with_reducible refine Fq.Kp.set ?_ (by decide) _)); with_reducible exact Fq.Kp.refl _ _), unhide HB⟩
end
end Go.Proofs.Ytcalcikclcmkaaa
