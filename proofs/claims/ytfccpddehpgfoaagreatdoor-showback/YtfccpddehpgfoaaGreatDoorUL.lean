/- By the verifier. -/
import Derived.Test.YtfccpddehpgfoaaGreatDoorXK
import Derived.Test.YtfccpddehpgfoaaGreatDoorUK
set_option maxRecDepth 100000
set_option maxHeartbeats 3200000
namespace Go.Proofs.YtfccpddehpgfoaaGreatDoor
open Go.RowKit
set_option linter.unusedVariables false
section
variable {T : Array Value} {w : World} {Q : Exit → Act → World → Prop} {q : Tk.F} {s : Tk.Sl} {ax bx i : Nat}
theorem ct_r0 (hT : T.size = 104) (s0 : T[0]? = some (.agg #[.slice s.ad s.len s.cap]))
  (hQ : ∀ T', (Fq.Kp 1 T T' ∧ T'[1]? = some (.pointer (some ⟨w.heap.size, 0, none⟩)) ∧ T'[2]? = some (.int .i64 0)) → Q .normal ⟨T', []⟩ (w.alloc (Obj.cells #[.slice s.ad s.len s.cap] 24))) : (ZaI Tryz.f11 0).wp Tryz.prog Q ⟨T, []⟩ w := by
 have a0 := fun h => Fq.el s0 h
 have d0 := ZaG s0
 have hu : undef = Value.tuple #[] := rfl
 have HQ := Hd hQ
 clear hQ
 conv => arg 2; whnf
 go_wp2_with fail
 exact (uh HQ) _ ⟨(by (repeat (with_reducible refine Fq.Kp.set ?_ (by decide) _)); with_reducible exact Fq.Kp.refl _ _), by simp [hT], by simp [hT]⟩
theorem ct_r1 {bb : Bool} (hT : T.size = 104) (s1 : T[1]? = some (.pointer (some ⟨ax, 0, none⟩))) (xa : w.cell? ⟨ax, 0, none⟩ = some (.slice s.ad s.len s.cap)) (hc : Calls Tryz.prog 26 #[.agg #[.slice s.ad s.len s.cap]] w fun r w' => r = .returned (.bool bb) ∧ Below w.heap.size w w')
  (hQ : ∀ T' w', (Fq.Kp 2 T T' ∧ T'[9]? = some (.bool bb) ∧ Below w.heap.size w w') → Q .normal ⟨T', []⟩ w') : (ZaI Tryz.f11 1).wp Tryz.prog Q ⟨T, []⟩ w := by
 have a1 := fun h => Fq.el s1 h
 have d1 := ZaG s1
 have hu : undef = Value.tuple #[] := rfl
 have HQ := Hd hQ
 clear hQ
 conv => arg 2; whnf
 have HC := Hd hc
 clear hc
 go_wp2_with (with_reducible refine (Calls.mono (uh HC) ?_); rintro r w2 ⟨rfl, hb2⟩; have HB := Hd hb2; clear hb2)
 exact (uh HQ) _ _ ⟨(by (repeat (with_reducible refine Fq.Kp.set ?_ (by decide) _)); with_reducible exact Fq.Kp.refl _ _), Zag _ (by simp [hT]) _, uh HB⟩
theorem ct_r2 (hT : T.size = 104)
  (hQ : ∀ T', (Fq.Kp 2 T T' ∧ T'[2]? = some (.int .i64 2)) → Q .normal ⟨T', []⟩ (w)) : (ZaI Tryz.f11 2).wp Tryz.prog Q ⟨T, []⟩ w := by
 have hu : undef = Value.tuple #[] := rfl
 have HQ := Hd hQ
 clear hQ
 conv => arg 2; whnf
 go_wp2_with fail
 exact (uh HQ) _ ⟨(by (repeat (with_reducible refine Fq.Kp.set ?_ (by decide) _)); with_reducible exact Fq.Kp.refl _ _), Zag _ (by simp [hT]) _⟩
theorem ct_r3 {VB : Bool} (hT : T.size = 104) (s1 : T[1]? = some (.pointer (some ⟨ax, 0, none⟩))) (xa : w.cell? ⟨ax, 0, none⟩ = some (.slice s.ad s.len s.cap)) (hVB : VB = ((s.len : Int) == 0))
  (hQ : ∀ T', (Fq.Kp 3 T T' ∧ T'[13]? = some (.bool VB)) → Q .normal ⟨T', []⟩ (w)) : (ZaI Tryz.f11 3).wp Tryz.prog Q ⟨T, []⟩ w := by
 have a1 := fun h => Fq.el s1 h
 have d1 := ZaG s1
 have hu : undef = Value.tuple #[] := rfl
 have HQ := Hd hQ
 clear hQ
 conv => arg 2; whnf
 cases hR : ((s.len : Int) == 0)
 · rw [hR] at hVB
   subst hVB
   go_wp2_with fail
   exact (uh HQ) _ ⟨(by (repeat (with_reducible refine Fq.Kp.set ?_ (by decide) _)); with_reducible exact Fq.Kp.refl _ _), Zag _ (by simp [hT]) _⟩
 rw [hR] at hVB
 subst hVB
 go_wp2_with fail
 exact (uh HQ) _ ⟨(by (repeat (with_reducible refine Fq.Kp.set ?_ (by decide) _)); with_reducible exact Fq.Kp.refl _ _), Zag _ (by simp [hT]) _⟩
theorem ct_r4 (hT : T.size = 104)
  (hQ : ∀ T', (Fq.Kp 2 T T' ∧ T'[2]? = some (.int .i64 1)) → Q .normal ⟨T', []⟩ (w)) : (ZaI Tryz.f11 4).wp Tryz.prog Q ⟨T, []⟩ w := by
 have hu : undef = Value.tuple #[] := rfl
 have HQ := Hd hQ
 clear hQ
 conv => arg 2; whnf
 go_wp2_with fail
 exact (uh HQ) _ ⟨(by (repeat (with_reducible refine Fq.Kp.set ?_ (by decide) _)); with_reducible exact Fq.Kp.refl _ _), Zag _ (by simp [hT]) _⟩
theorem ct_r21 (hT : T.size = 104)
  (hQ : ∀ T', (Fq.Kp 2 T T' ∧ T'[2]? = some (.int .i64 1)) → Q .normal ⟨T', []⟩ (w)) : (ZaI Tryz.f11 21).wp Tryz.prog Q ⟨T, []⟩ w := by
 have hu : undef = Value.tuple #[] := rfl
 have HQ := Hd hQ
 clear hQ
 conv => arg 2; whnf
 go_wp2_with fail
 exact (uh HQ) _ ⟨(by (repeat (with_reducible refine Fq.Kp.set ?_ (by decide) _)); with_reducible exact Fq.Kp.refl _ _), Zag _ (by simp [hT]) _⟩
theorem ct_r22 (hT : T.size = 104)
  (hQ : ∀ T', (Fq.Kp 2 T T' ∧ T'[2]? = some (.int .i64 0)) → Q .normal ⟨T', []⟩ (w)) : (ZaI Tryz.f11 22).wp Tryz.prog Q ⟨T, []⟩ w := by
 have hu : undef = Value.tuple #[] := rfl
 have HQ := Hd hQ
 clear hQ
 conv => arg 2; whnf
 go_wp2_with fail
 exact (uh HQ) _ ⟨(by (repeat (with_reducible refine Fq.Kp.set ?_ (by decide) _)); with_reducible exact Fq.Kp.refl _ _), Zag _ (by simp [hT]) _⟩
theorem ct_r5 (hT : T.size = 104)
  (hQ : ∀ T', (Fq.Kp 3 T T' ∧ T'[3]? = some (.int .i64 0)) → Q .normal ⟨T', []⟩ (w)) : (ZaI Tryz.f11 5).wp Tryz.prog Q ⟨T, []⟩ w := by
 have hu : undef = Value.tuple #[] := rfl
 have HQ := Hd hQ
 clear hQ
 conv => arg 2; whnf
 go_wp2_with fail
 exact (uh HQ) _ ⟨(by (repeat (with_reducible refine Fq.Kp.set ?_ (by decide) _)); with_reducible exact Fq.Kp.refl _ _), Zag _ (by simp [hT]) _⟩
theorem ct_r6 {VB : Bool} (hT : T.size = 104) (s1 : T[1]? = some (.pointer (some ⟨ax, 0, none⟩))) (s3 : T[3]? = some (.int .i64 (i : Nat))) (xa : w.cell? ⟨ax, 0, none⟩ = some (.slice s.ad s.len s.cap)) (htl : s.len ≤ 35184372088832) (hVB : decide ((i : Int) < (s.len : Int)) = VB)
  (hQ : ∀ T', (Fq.Kp 4 T T' ∧ T'[18]? = some (.bool VB)) → Q .normal ⟨T', []⟩ (w)) : (ZaI Tryz.f11 6).wp Tryz.prog Q ⟨T, []⟩ w := by
 have a1 := fun h => Fq.el s1 h
 have d1 := ZaG s1
 have a3 := fun h => Fq.el s3 h
 have d3 := ZaG s3
 have hu : undef = Value.tuple #[] := rfl
 have HQ := Hd hQ
 clear hQ
 conv => arg 2; whnf
 cases VB
 · have hlt : ¬ (i : Int) < (s.len : Int) := of_decide_eq_false hVB
   clear hVB
   go_wp2_with fail
   exact (uh HQ) _ ⟨(by (repeat (with_reducible refine Fq.Kp.set ?_ (by decide) _)); with_reducible exact Fq.Kp.refl _ _), Zag _ (by simp [hT]) _⟩
 have hlt : (i : Int) < (s.len : Int) := of_decide_eq_true hVB
 clear hVB
 go_wp2_with fail
 exact (uh HQ) _ ⟨(by (repeat (with_reducible refine Fq.Kp.set ?_ (by decide) _)); with_reducible exact Fq.Kp.refl _ _), Zag _ (by simp [hT]) _⟩
theorem ct_r7 (hT : T.size = 104) (s3 : T[3]? = some (.int .i64 (i : Nat))) (htl : i < 35184372088832)
  (hQ : ∀ T', (Fq.Kp 3 T T' ∧ T'[3]? = some (.int .i64 ((i + 1 : Nat) : Int))) → Q .normal ⟨T', []⟩ (w)) : (ZaI Tryz.f11 7).wp Tryz.prog Q ⟨T, []⟩ w := by
 have a3 := fun h => Fq.el s3 h
 have d3 := ZaG s3
 have hu : undef = Value.tuple #[] := rfl
 have HQ := Hd hQ
 clear hQ
 conv => arg 2; whnf
 have hc : ((i + 1 : Nat) : Int) = (i : Int) + 1 := by omega
 have hw0 : IntKind.i64.wrap ((i : Int) + 1) = (i : Int) + 1 := by rw [IntKind.wrap_i64]; omega
 rw [hc] at HQ
 go_wp2_with fail
 exact (uh HQ) _ ⟨(by (repeat (with_reducible refine Fq.Kp.set ?_ (by decide) _)); with_reducible exact Fq.Kp.refl _ _), Zag _ (by simp [hT]) _⟩
theorem ct_r8 {b o : Nat} (hT : T.size = 104) (s1 : T[1]? = some (.pointer (some ⟨ax, 0, none⟩))) (s3 : T[3]? = some (.int .i64 (i : Nat))) (xa : w.cell? ⟨ax, 0, none⟩ = some (.slice (some ⟨b, o, none⟩) s.len s.cap)) (hlt : i < s.len) (y0 : w.cell? ⟨b, o + i * 10, none⟩ = some (.int .i64 q.a)) (y1 : w.cell? ⟨b, o + i * 10 + 1, none⟩ = some (.string q.nm)) (y2 : w.cell? ⟨b, o + i * 10 + 2, none⟩ = some (.slice q.ps.ad q.ps.len q.ps.cap)) (y3 : w.cell? ⟨b, o + i * 10 + 3, none⟩ = some (.slice q.vs.ad q.vs.len q.vs.cap)) (y4 : w.cell? ⟨b, o + i * 10 + 4, none⟩ = some (.slice q.cs.ad q.cs.len q.cs.cap)) (y5 : w.cell? ⟨b, o + i * 10 + 5, none⟩ = some (.int .i64 q.re.k)) (y6 : w.cell? ⟨b, o + i * 10 + 6, none⟩ = some (.int .i64 q.re.a)) (y7 : w.cell? ⟨b, o + i * 10 + 7, none⟩ = some (.int .i64 q.re.n)) (y8 : w.cell? ⟨b, o + i * 10 + 8, none⟩ = some (.string q.re.nm)) (y9 : w.cell? ⟨b, o + i * 10 + 9, none⟩ = some (.slice q.re.args.ad q.re.args.len q.re.args.cap))
  (hQ : ∀ T', (Fq.Kp 4 T T' ∧ T'[4]? = some (.pointer (some ⟨w.heap.size, 0, none⟩))) → Q .normal ⟨T', []⟩ (w.alloc (Obj.cells q.cells 54))) : (ZaI Tryz.f11 8).wp Tryz.prog Q ⟨T, []⟩ w := by
 unfold Tk.F.cells at hQ
 have a1 := fun h => Fq.el s1 h
 have d1 := ZaG s1
 have a3 := fun h => Fq.el s3 h
 have d3 := ZaG s3
 have hu : undef = Value.tuple #[] := rfl
 have HQ := Hd hQ
 clear hQ
 conv => arg 2; whnf
 have hi0 : (0 : Int) ≤ (i : Int) := by omega
 have hi1 : (i : Int) < (s.len : Int) := by omega
 go_wp2_with fail
 exact (uh HQ) _ ⟨(by (repeat (with_reducible refine Fq.Kp.set ?_ (by decide) _)); with_reducible exact Fq.Kp.refl _ _), Zag _ (by simp [hT]) _⟩
theorem ct_r9 {b1 b2 : Bool} (hT : T.size = 104) (s4 : T[4]? = some (.pointer (some ⟨bx, 0, none⟩))) (hbv : ∀ V, Below w.heap.size w V → V.cell? ⟨bx, 1, none⟩ = some (.string q.nm) ∧ V.cell? ⟨bx, 5, none⟩ = some (.int .i64 q.re.k) ∧ V.cell? ⟨bx, 6, none⟩ = some (.int .i64 q.re.a) ∧ V.cell? ⟨bx, 7, none⟩ = some (.int .i64 q.re.n) ∧ V.cell? ⟨bx, 8, none⟩ = some (.string q.re.nm) ∧ V.cell? ⟨bx, 9, none⟩ = some (.slice q.re.args.ad q.re.args.len q.re.args.cap)) (hc1 : ∀ V, Below w.heap.size w V → Calls Tryz.prog 27 #[.string q.nm] V fun r w' => r = .returned (.bool b1) ∧ Below V.heap.size V w') (hc2 : ∀ V, Below w.heap.size w V → Calls Tryz.prog 28 #[.agg #[.int .i64 q.re.k, .int .i64 q.re.a, .int .i64 q.re.n, .string q.re.nm, .slice q.re.args.ad q.re.args.len q.re.args.cap]] V fun r w' => r = .returned (.bool b2) ∧ Below V.heap.size V w')
  (hQ : ∀ T' w', (Fq.Kp 5 T T' ∧ T'[5]? = some (.bool (b1 && b2)) ∧ Below w.heap.size w w') → Q .normal ⟨T', []⟩ w') : (ZaI Tryz.f11 9).wp Tryz.prog Q ⟨T, []⟩ w := by
 have a4 := fun h => Fq.el s4 h
 have d4 := ZaG s4
 have hu : undef = Value.tuple #[] := rfl
 have HQ := Hd hQ
 clear hQ
 conv => arg 2; whnf
 have HC1 := Hd hc1
 have HC2 := Hd hc2
 have HBV := Hd hbv
 clear hc1 hc2 hbv
 obtain ⟨z1, -, -, -, -, -⟩ := (uh HBV) w Zr
 go_wp2_with fail
 refine ((uh HC1) _ (Below.refl w.heap.size w)).mono ?_
 rintro r w1 ⟨rfl, hb⟩
 have HB := Hd ((Below.refl w.heap.size w).trans (hb.mono (Below.refl w.heap.size w).size))
 clear hb
 clear z1
 obtain ⟨-, z5, z6, z7, z8, z9⟩ := (uh HBV) w1 (uh HB)
 cases b1
 · go_wp2_with fail
   exact (uh HQ) _ _ ⟨(by (repeat (with_reducible refine Fq.Kp.set ?_ (by decide) _)); with_reducible exact Fq.Kp.refl _ _), Zag _ (by simp [hT]) _, uh HB⟩
 go_wp2_with fail
 refine ((uh HC2) _ (uh HB)).mono ?_
 rintro r w2 ⟨rfl, hb⟩
 have HB := Hd ((uh HB).trans (hb.mono (uh HB).size))
 clear hb
 go_wp2_with fail
 exact (uh HQ) _ _ ⟨(by (repeat (with_reducible refine Fq.Kp.set ?_ (by decide) _)); with_reducible exact Fq.Kp.refl _ _), Zag _ (by simp [hT]) _, uh HB⟩
theorem ct_r10 {VB : Bool} (hT : T.size = 104) (s1 : T[1]? = some (.pointer (some ⟨ax, 0, none⟩))) (s3 : T[3]? = some (.int .i64 (i : Nat))) (xa : w.cell? ⟨ax, 0, none⟩ = some (.slice s.ad s.len s.cap)) (htl : s.len ≤ 35184372088832) (hVB : VB = ((i : Int) == (s.len : Int) - 1))
  (hQ : ∀ T', (Fq.Kp 6 T T' ∧ T'[39]? = some (.bool VB)) → Q .normal ⟨T', []⟩ (w)) : (ZaI Tryz.f11 10).wp Tryz.prog Q ⟨T, []⟩ w := by
 have a1 := fun h => Fq.el s1 h
 have d1 := ZaG s1
 have a3 := fun h => Fq.el s3 h
 have d3 := ZaG s3
 have hu : undef = Value.tuple #[] := rfl
 have HQ := Hd hQ
 clear hQ
 conv => arg 2; whnf
 have hw0 : IntKind.i64.wrap ((s.len : Int) - 1) = (s.len : Int) - 1 := by rw [IntKind.wrap_i64]; omega
 cases hR : ((i : Int) == (s.len : Int) - 1)
 · rw [hR] at hVB
   subst hVB
   go_wp2_with fail
   exact (uh HQ) _ ⟨(by (repeat (with_reducible refine Fq.Kp.set ?_ (by decide) _)); with_reducible exact Fq.Kp.refl _ _), Zag _ (by simp [hT]) _⟩
 rw [hR] at hVB
 subst hVB
 go_wp2_with fail
 exact (uh HQ) _ ⟨(by (repeat (with_reducible refine Fq.Kp.set ?_ (by decide) _)); with_reducible exact Fq.Kp.refl _ _), Zag _ (by simp [hT]) _⟩
theorem ct_r11 {b2 : Bool} (hT : T.size = 104) (s4 : T[4]? = some (.pointer (some ⟨bx, 0, none⟩))) (hbv : ∀ V, Below w.heap.size w V → V.cell? ⟨bx, 1, none⟩ = some (.string q.nm) ∧ V.cell? ⟨bx, 2, none⟩ = some (.slice q.ps.ad q.ps.len q.ps.cap) ∧ V.cell? ⟨bx, 5, none⟩ = some (.int .i64 q.re.k) ∧ V.cell? ⟨bx, 6, none⟩ = some (.int .i64 q.re.a) ∧ V.cell? ⟨bx, 7, none⟩ = some (.int .i64 q.re.n) ∧ V.cell? ⟨bx, 8, none⟩ = some (.string q.re.nm) ∧ V.cell? ⟨bx, 9, none⟩ = some (.slice q.re.args.ad q.re.args.len q.re.args.cap)) (hc : Calls Tryz.prog 29 #[.agg #[.int .i64 q.re.k, .int .i64 q.re.a, .int .i64 q.re.n, .string q.re.nm, .slice q.re.args.ad q.re.args.len q.re.args.cap]] w fun r w' => r = .returned (.bool b2) ∧ Below w.heap.size w w')
  (hQ : ∀ T' w', (Fq.Kp 5 T T' ∧ T'[5]? = some (.bool (q.nm.toList.isEmpty && b2 && ((q.ps.len : Int) == 0))) ∧ Below w.heap.size w w') → Q .normal ⟨T', []⟩ w') : (ZaI Tryz.f11 11).wp Tryz.prog Q ⟨T, []⟩ w := by
 have a4 := fun h => Fq.el s4 h
 have d4 := ZaG s4
 have hu : undef = Value.tuple #[] := rfl
 have HQ := Hd hQ
 clear hQ
 conv => arg 2; whnf
 have HC := Hd hc
 have HBV := Hd hbv
 clear hc hbv
 obtain ⟨z1, -, z5, z6, z7, z8, z9⟩ := (uh HBV) w Zr
 cases hR : q.nm.toList.isEmpty
 · rw [hR] at HQ
   have HB := Hd (Below.refl w.heap.size w)
   go_wp2_with fail
   exact (uh HQ) _ _ ⟨(by (repeat (with_reducible refine Fq.Kp.set ?_ (by decide) _)); with_reducible exact Fq.Kp.refl _ _), Zag _ (by simp [hT]) _, uh HB⟩
 rw [hR] at HQ
 go_wp2_with fail
 refine (uh HC).mono ?_
 rintro r w1 ⟨rfl, hb⟩
 have HB := Hd hb
 clear hb z1 z5 z6 z7 z8 z9
 obtain ⟨-, z2, -, -, -, -, -⟩ := (uh HBV) w1 (uh HB)
 cases b2
 · go_wp2_with fail
   exact (uh HQ) _ _ ⟨(by (repeat (with_reducible refine Fq.Kp.set ?_ (by decide) _)); with_reducible exact Fq.Kp.refl _ _), Zag _ (by simp [hT]) _, uh HB⟩
 cases hL : ((q.ps.len : Int) == 0)
 · rw [hL] at HQ
   go_wp2_with fail
   exact (uh HQ) _ _ ⟨(by (repeat (with_reducible refine Fq.Kp.set ?_ (by decide) _)); with_reducible exact Fq.Kp.refl _ _), Zag _ (by simp [hT]) _, uh HB⟩
 rw [hL] at HQ
 go_wp2_with fail
 exact (uh HQ) _ _ ⟨(by (repeat (with_reducible refine Fq.Kp.set ?_ (by decide) _)); with_reducible exact Fq.Kp.refl _ _), Zag _ (by simp [hT]) _, uh HB⟩
theorem ct_r12 (hT : T.size = 104)
  (hQ : ∀ T', (Fq.Kp 6 T T' ∧ T'[6]? = some (.int .i64 0)) → Q .normal ⟨T', []⟩ (w)) : (ZaI Tryz.f11 12).wp Tryz.prog Q ⟨T, []⟩ w := by
 have hu : undef = Value.tuple #[] := rfl
 have HQ := Hd hQ
 clear hQ
 conv => arg 2; whnf
 go_wp2_with fail
 exact (uh HQ) _ ⟨(by (repeat (with_reducible refine Fq.Kp.set ?_ (by decide) _)); with_reducible exact Fq.Kp.refl _ _), Zag _ (by simp [hT]) _⟩
theorem ct_r16 (hT : T.size = 104)
  (hQ : ∀ T', (Fq.Kp 6 T T' ∧ T'[7]? = some (.int .i64 0)) → Q .normal ⟨T', []⟩ (w)) : (ZaI Tryz.f11 16).wp Tryz.prog Q ⟨T, []⟩ w := by
 have hu : undef = Value.tuple #[] := rfl
 have HQ := Hd hQ
 clear hQ
 conv => arg 2; whnf
 go_wp2_with fail
 exact (uh HQ) _ ⟨(by (repeat (with_reducible refine Fq.Kp.set ?_ (by decide) _)); with_reducible exact Fq.Kp.refl _ _), Zag _ (by simp [hT]) _⟩
theorem ct_r13 {k : Nat} {VB : Bool} (hT : T.size = 104) (s4 : T[4]? = some (.pointer (some ⟨bx, 0, none⟩))) (s6 : T[6]? = some (.int .i64 (k : Nat))) (x2 : w.cell? ⟨bx, 2, none⟩ = some (.slice q.ps.ad q.ps.len q.ps.cap)) (hVB : decide ((k : Int) < (q.ps.len : Int)) = VB)
  (hQ : ∀ T', (Fq.Kp 8 T T' ∧ T'[58]? = some (.bool VB)) → Q .normal ⟨T', []⟩ (w)) : (ZaI Tryz.f11 13).wp Tryz.prog Q ⟨T, []⟩ w := by
 have a4 := fun h => Fq.el s4 h
 have d4 := ZaG s4
 have a6 := fun h => Fq.el s6 h
 have d6 := ZaG s6
 have hu : undef = Value.tuple #[] := rfl
 have HQ := Hd hQ
 clear hQ
 conv => arg 2; whnf
 cases VB
 · have hlt : ¬ (k : Int) < (q.ps.len : Int) := of_decide_eq_false hVB
   clear hVB
   go_wp2_with fail
   exact (uh HQ) _ ⟨(by (repeat (with_reducible refine Fq.Kp.set ?_ (by decide) _)); with_reducible exact Fq.Kp.refl _ _), Zag _ (by simp [hT]) _⟩
 have hlt : (k : Int) < (q.ps.len : Int) := of_decide_eq_true hVB
 clear hVB
 go_wp2_with fail
 exact (uh HQ) _ ⟨(by (repeat (with_reducible refine Fq.Kp.set ?_ (by decide) _)); with_reducible exact Fq.Kp.refl _ _), Zag _ (by simp [hT]) _⟩
theorem ct_r17 {k : Nat} {VB : Bool} (hT : T.size = 104) (s4 : T[4]? = some (.pointer (some ⟨bx, 0, none⟩))) (s7 : T[7]? = some (.int .i64 (k : Nat))) (x3 : w.cell? ⟨bx, 3, none⟩ = some (.slice q.vs.ad q.vs.len q.vs.cap)) (hVB : decide ((k : Int) < (q.vs.len : Int)) = VB)
  (hQ : ∀ T', (Fq.Kp 8 T T' ∧ T'[74]? = some (.bool VB)) → Q .normal ⟨T', []⟩ (w)) : (ZaI Tryz.f11 17).wp Tryz.prog Q ⟨T, []⟩ w := by
 have a4 := fun h => Fq.el s4 h
 have d4 := ZaG s4
 have a7 := fun h => Fq.el s7 h
 have d7 := ZaG s7
 have hu : undef = Value.tuple #[] := rfl
 have HQ := Hd hQ
 clear hQ
 conv => arg 2; whnf
 cases VB
 · have hlt : ¬ (k : Int) < (q.vs.len : Int) := of_decide_eq_false hVB
   clear hVB
   go_wp2_with fail
   exact (uh HQ) _ ⟨(by (repeat (with_reducible refine Fq.Kp.set ?_ (by decide) _)); with_reducible exact Fq.Kp.refl _ _), Zag _ (by simp [hT]) _⟩
 have hlt : (k : Int) < (q.vs.len : Int) := of_decide_eq_true hVB
 clear hVB
 go_wp2_with fail
 exact (uh HQ) _ ⟨(by (repeat (with_reducible refine Fq.Kp.set ?_ (by decide) _)); with_reducible exact Fq.Kp.refl _ _), Zag _ (by simp [hT]) _⟩
theorem ct_r14 {k : Nat} (hT : T.size = 104) (s6 : T[6]? = some (.int .i64 (k : Nat))) (htl : k < 35184372088832)
  (hQ : ∀ T', (Fq.Kp 6 T T' ∧ T'[6]? = some (.int .i64 ((k + 1 : Nat) : Int))) → Q .normal ⟨T', []⟩ (w)) : (ZaI Tryz.f11 14).wp Tryz.prog Q ⟨T, []⟩ w := by
 have a6 := fun h => Fq.el s6 h
 have d6 := ZaG s6
 have hu : undef = Value.tuple #[] := rfl
 have HQ := Hd hQ
 clear hQ
 conv => arg 2; whnf
 have hc : ((k + 1 : Nat) : Int) = (k : Int) + 1 := by omega
 have hw0 : IntKind.i64.wrap ((k : Int) + 1) = (k : Int) + 1 := by rw [IntKind.wrap_i64]; omega
 rw [hc] at HQ
 go_wp2_with fail
 exact (uh HQ) _ ⟨(by (repeat (with_reducible refine Fq.Kp.set ?_ (by decide) _)); with_reducible exact Fq.Kp.refl _ _), Zag _ (by simp [hT]) _⟩
theorem ct_r18 {k : Nat} (hT : T.size = 104) (s7 : T[7]? = some (.int .i64 (k : Nat))) (htl : k < 35184372088832)
  (hQ : ∀ T', (Fq.Kp 6 T T' ∧ T'[7]? = some (.int .i64 ((k + 1 : Nat) : Int))) → Q .normal ⟨T', []⟩ (w)) : (ZaI Tryz.f11 18).wp Tryz.prog Q ⟨T, []⟩ w := by
 have a7 := fun h => Fq.el s7 h
 have d7 := ZaG s7
 have hu : undef = Value.tuple #[] := rfl
 have HQ := Hd hQ
 clear hQ
 conv => arg 2; whnf
 have hc : ((k + 1 : Nat) : Int) = (k : Int) + 1 := by omega
 have hw0 : IntKind.i64.wrap ((k : Int) + 1) = (k : Int) + 1 := by rw [IntKind.wrap_i64]; omega
 rw [hc] at HQ
 go_wp2_with fail
 exact (uh HQ) _ ⟨(by (repeat (with_reducible refine Fq.Kp.set ?_ (by decide) _)); with_reducible exact Fq.Kp.refl _ _), Zag _ (by simp [hT]) _⟩
theorem ct_r15 {k ba oa : Nat} {c bb : Bool} {t : ByteArray} (hT : T.size = 104) (s4 : T[4]? = some (.pointer (some ⟨bx, 0, none⟩))) (s5 : T[5]? = some (.bool c)) (s6 : T[6]? = some (.int .i64 (k : Nat))) (x2 : w.cell? ⟨bx, 2, none⟩ = some (.slice (some ⟨ba, oa, none⟩) q.ps.len q.ps.cap)) (hk : k < q.ps.len) (y0 : w.cell? ⟨ba, oa + k, none⟩ = some (.string t)) (hc : Calls Tryz.prog 27 #[.string t] w fun r w' => r = .returned (.bool bb) ∧ Below w.heap.size w w')
  (hQ : ∀ T' w', (Fq.Kp 5 T T' ∧ T'[5]? = some (.bool (c && bb)) ∧ T'[6]? = some (.int .i64 (k : Nat)) ∧ Below w.heap.size w w') → Q .normal ⟨T', []⟩ w') : (ZaI Tryz.f11 15).wp Tryz.prog Q ⟨T, []⟩ w := by
 have a4 := fun h => Fq.el s4 h
 have d4 := ZaG s4
 have a5 := fun h => Fq.el s5 h
 have d5 := ZaG s5
 have a6 := fun h => Fq.el s6 h
 have d6 := ZaG s6
 have hu : undef = Value.tuple #[] := rfl
 have HQ := Hd hQ
 clear hQ
 conv => arg 2; whnf
 have HC := Hd hc
 clear hc
 have hk0 : (0 : Int) ≤ (k : Int) := by omega
 have hk1 : (k : Int) < (q.ps.len : Int) := by omega
 cases c
 · have HB := Hd (Below.refl w.heap.size w)
   go_wp2_with fail
   exact (uh HQ) _ _ ⟨(by (repeat (with_reducible refine Fq.Kp.set ?_ (by decide) _)); with_reducible exact Fq.Kp.refl _ _), (Zag _ (by simp [hT]) _).trans (rfl), (by (repeat (with_reducible refine (Fq.set_ne _ (by decide) _).trans ?_)); exact s6), uh HB⟩
 go_wp2_with (with_reducible refine (Calls.mono (uh HC) ?_); rintro r w2 ⟨rfl, hb2⟩; have HB := Hd hb2; clear hb2)
 exact (uh HQ) _ _ ⟨(by (repeat (with_reducible refine Fq.Kp.set ?_ (by decide) _)); with_reducible exact Fq.Kp.refl _ _), (Zag _ (by simp [hT]) _).trans (rfl), (by (repeat (with_reducible refine (Fq.set_ne _ (by decide) _).trans ?_)); exact s6), uh HB⟩
theorem ct_r19 {k ba oa : Nat} {c b1 b2 : Bool} {t : ByteArray} {z : Int} (hT : T.size = 104) (s4 : T[4]? = some (.pointer (some ⟨bx, 0, none⟩))) (s5 : T[5]? = some (.bool c)) (s7 : T[7]? = some (.int .i64 (k : Nat))) (hbv : ∀ V, Below w.heap.size w V → V.cell? ⟨bx, 3, none⟩ = some (.slice (some ⟨ba, oa, none⟩) q.vs.len q.vs.cap) ∧ V.cell? ⟨ba, oa + k * 2, none⟩ = some (.string t) ∧ V.cell? ⟨ba, oa + k * 2 + 1, none⟩ = some (.int .i64 z)) (hk : k < q.vs.len) (hc1 : ∀ V, Below w.heap.size w V → Calls Tryz.prog 27 #[.string t] V fun r w' => r = .returned (.bool b1) ∧ Below V.heap.size V w') (hc2 : ∀ V, Below w.heap.size w V → Calls Tryz.prog 30 #[.int .i64 z, .int .i64 0, .int .i64 9999999] V fun r w' => r = .returned (.bool b2) ∧ Below V.heap.size V w')
  (hQ : ∀ T' w', (Fq.Kp 5 T T' ∧ T'[5]? = some (.bool (c && (b1 && b2))) ∧ T'[7]? = some (.int .i64 (k : Nat)) ∧ Below w.heap.size w w') → Q .normal ⟨T', []⟩ w') : (ZaI Tryz.f11 19).wp Tryz.prog Q ⟨T, []⟩ w := by
 have a4 := fun h => Fq.el s4 h
 have d4 := ZaG s4
 have a5 := fun h => Fq.el s5 h
 have d5 := ZaG s5
 have a7 := fun h => Fq.el s7 h
 have d7 := ZaG s7
 have hu : undef = Value.tuple #[] := rfl
 have HQ := Hd hQ
 clear hQ
 conv => arg 2; whnf
 have HC1 := Hd hc1
 have HC2 := Hd hc2
 have HBV := Hd hbv
 clear hc1 hc2 hbv
 have hk0 : (0 : Int) ≤ (k : Int) := by omega
 have hk1 : (k : Int) < (q.vs.len : Int) := by omega
 cases c
 · have HB := Hd (Below.refl w.heap.size w)
   go_wp2_with fail
   exact (uh HQ) _ _ ⟨(by (repeat (with_reducible refine Fq.Kp.set ?_ (by decide) _)); with_reducible exact Fq.Kp.refl _ _), (Zag _ (by simp [hT]) _).trans (rfl), (by (repeat (with_reducible refine (Fq.set_ne _ (by decide) _).trans ?_)); exact s7), uh HB⟩
 obtain ⟨z3, zn, zz⟩ := (uh HBV) w Zr
 go_wp2_with fail
 refine ((uh HC1) _ (Below.refl w.heap.size w)).mono ?_
 rintro r w1 ⟨rfl, hb⟩
 have HB := Hd ((Below.refl w.heap.size w).trans (hb.mono (Below.refl w.heap.size w).size))
 clear hb
 clear z3 zn zz
 obtain ⟨z3, zn, zz⟩ := (uh HBV) w1 (uh HB)
 cases b1
 · go_wp2_with fail
   exact (uh HQ) _ _ ⟨(by (repeat (with_reducible refine Fq.Kp.set ?_ (by decide) _)); with_reducible exact Fq.Kp.refl _ _), (Zag _ (by simp [hT]) _).trans (rfl), (by (repeat (with_reducible refine (Fq.set_ne _ (by decide) _).trans ?_)); exact s7), uh HB⟩
 go_wp2_with fail
 refine ((uh HC2) _ (uh HB)).mono ?_
 rintro r w2 ⟨rfl, hb⟩
 have HB := Hd ((uh HB).trans (hb.mono (uh HB).size))
 clear hb
 go_wp2_with fail
 exact (uh HQ) _ _ ⟨(by (repeat (with_reducible refine Fq.Kp.set ?_ (by decide) _)); with_reducible exact Fq.Kp.refl _ _), (Zag _ (by simp [hT]) _).trans (rfl), (by (repeat (with_reducible refine (Fq.set_ne _ (by decide) _).trans ?_)); exact s7), uh HB⟩
theorem ct_r20 {c bb : Bool} (hT : T.size = 104) (s4 : T[4]? = some (.pointer (some ⟨bx, 0, none⟩))) (s5 : T[5]? = some (.bool c)) (x4 : w.cell? ⟨bx, 4, none⟩ = some (.slice q.cs.ad q.cs.len q.cs.cap)) (hc : Calls Tryz.prog 31 #[.slice q.cs.ad q.cs.len q.cs.cap] w fun r w' => r = .returned (.bool bb) ∧ Below w.heap.size w w')
  (hQ : ∀ T' w', (Fq.Kp 6 T T' ∧ T'[103]? = some (.bool (!(c && bb))) ∧ Below w.heap.size w w') → Q .normal ⟨T', []⟩ w') : (ZaI Tryz.f11 20).wp Tryz.prog Q ⟨T, []⟩ w := by
 have a4 := fun h => Fq.el s4 h
 have d4 := ZaG s4
 have a5 := fun h => Fq.el s5 h
 have d5 := ZaG s5
 have hu : undef = Value.tuple #[] := rfl
 have HQ := Hd hQ
 clear hQ
 conv => arg 2; whnf
 have HC := Hd hc
 clear hc
 cases c
 · have HB := Hd (Below.refl w.heap.size w)
   go_wp2_with fail
   exact (uh HQ) _ _ ⟨(by (repeat (with_reducible refine Fq.Kp.set ?_ (by decide) _)); with_reducible exact Fq.Kp.refl _ _), Zag _ (by simp [hT]) _, uh HB⟩
 go_wp2_with (with_reducible refine (Calls.mono (uh HC) ?_); rintro r w2 ⟨rfl, hb2⟩; have HB := Hd hb2; clear hb2)
 exact (uh HQ) _ _ ⟨(by (repeat (with_reducible refine Fq.Kp.set ?_ (by decide) _)); with_reducible exact Fq.Kp.refl _ _), Zag _ (by simp [hT]) _, uh HB⟩
end
theorem ZhE {m n : Nat} (s : Tk.Sl) (l : List (Tk.FT m n)) (w : World) (hs : Tk.RT w m n s l) :
  Calls Tryz.prog 26 #[.agg #[.slice s.ad s.len s.cap]] w fun r w' => r = .returned (.bool (Dk.many l)) ∧ Below w.heap.size w w' := by
 have hlen := hs.len
 have hfew := hs.few
 rw [← hlen] at hfew
 have hbA := (Below.refl w.heap.size w).alloc Zl (Obj.cells #[.slice s.ad s.len s.cap] 24)
 have HB := Hd hbA
 have HS := Hd (Tk.RT.later hs hbA Zl)
 have HLN := Hd hlen
 have hsa : (w.alloc (Obj.cells #[.slice s.ad s.len s.cap] 24)).heap.size = w.heap.size + 1 := by simp
 have HC0 := Hd (show (w.alloc (Obj.cells #[.slice s.ad s.len s.cap] 24)).cell? ⟨w.heap.size, 0, none⟩ = some (.slice s.ad s.len s.cap) by go_simp)
 clear hs hlen hbA
 have HZ := Hd (show Dk.many l = (decide (6 < l.length) || ZbD 0 l) from rfl)
 generalize Dk.many l = z at *
 by_cases h6 : 6 < s.len
 · have g6 : (6 : Int) < (s.len : Int) := by omega
   obtain rfl : z = true := by rw [uh HZ, decide_eq_true (show 6 < l.length by have := uh HLN; omega)]; rfl
   go_enter Tryz.func26, Tryz.ntmps26
   (try simp only [List.append_eq, List.cons_append, List.nil_append])
   go_wp2_with fail
   go_ret
   exact ⟨rfl, uh HB⟩
 have g6 : ¬ (6 : Int) < (s.len : Int) := by omega
 replace HZ := Hd (show z = ZbD 0 l by rw [uh HZ, decide_eq_false (show ¬ 6 < l.length by have := uh HLN; omega)]; rfl)
 go_enter Tryz.func26, Tryz.ntmps26
 (try simp only [List.append_eq, List.cons_append, List.nil_append])
 go_wp2_with fail
 generalize (w.alloc (Obj.cells #[.slice s.ad s.len s.cap] 24)) = wa at *
 go_loopw [3, 4] (fun nv iv wr => ∃ (i : Nat) (c : Int), i ≤ s.len ∧ iv = .int .i64 i ∧ nv = .int .i64 c ∧ ZbD 0 l = ZbD c (l.drop i) ∧ 0 ≤ c ∧ c ≤ 41 * (i : Int) ∧ Below wa.heap.size wa wr) (fun _ iv _ => s.len - (intOf iv).toNat)
 case atStart => exact ⟨0, 0, Nat.zero_le _, rfl, rfl, rfl, by omega, by omega, Zr⟩
 case round =>
  obtain ⟨i, c, hi, rfl, rfl, hl, hc1, hc2, hbe⟩ := hrel
  have hz := hbe.size
  have HBE := Hd hbe
  clear hbe
  by_cases hlt : i < s.len
  · have hlt2 : i < l.length := by have := uh HLN; omega
    have hy := Zg hlt2
    obtain ⟨b, o, q, had, hb, hlies, hrd⟩ := (uh HS).at_ i _ hy
    generalize l[i] = y at *
    have hdr := ZcQ hy
    rw [hdr] at hl
    have hl2 : ZbD 0 l = (decide (3 < y.ps.length) || decide (6 < y.vs.length) || decide (15 < Zab m y.re) || ZbD (c + ZaL n 1 y.cs) (l.drop (i + 1))) := hl
    have HL := Hd hl2
    have hpl := hrd.ps.len
    have hvl := hrd.vs.len
    have hpf := hrd.ps.few
    have hvf := hrd.vs.few
    clear hl hl2
    have hcell : ∀ j v, q.cells[j]? = some v → wr.cell? ⟨b, o + i * 10 + j, none⟩ = some v := (hlies.later (uh HBE) Zl hb).cells
    have hi0 : (0 : Int) ≤ (i : Int) := by omega
    have hi1 : (i : Int) < (s.len : Int) := by omega
    have hbN := (Below.refl wr.heap.size wr).alloc Zl (Obj.cells q.cells 54)
    have HRD := Hd ((hrd.later (uh HBE) Zl).later hbN Zl)
    have HBN := Hd ((uh HBE).trans (hbN.mono (by omega)))
    have HBX := Hd (ZcB wr q)
    have hsN : (wr.alloc (Obj.cells q.cells 54)).heap.size = wr.heap.size + 1 := by simp
    have hc0 : wr.cell? ⟨w.heap.size, 0, none⟩ = some (.slice s.ad s.len s.cap) := ((uh HBE).cell (p := ⟨w.heap.size, 0, none⟩) (by show w.heap.size < _; omega)).trans (uh HC0)
    have k0 : wr.cell? ⟨b, o + i * 10, none⟩ = some (.int .i64 q.a) := hcell 0 _ rfl
    have k1 : wr.cell? ⟨b, o + i * 10 + 1, none⟩ = some (.string q.nm) := hcell 1 _ rfl
    have k2 : wr.cell? ⟨b, o + i * 10 + 2, none⟩ = some (.slice q.ps.ad q.ps.len q.ps.cap) := hcell 2 _ rfl
    have k3 : wr.cell? ⟨b, o + i * 10 + 3, none⟩ = some (.slice q.vs.ad q.vs.len q.vs.cap) := hcell 3 _ rfl
    have k4 : wr.cell? ⟨b, o + i * 10 + 4, none⟩ = some (.slice q.cs.ad q.cs.len q.cs.cap) := hcell 4 _ rfl
    have k5 : wr.cell? ⟨b, o + i * 10 + 5, none⟩ = some (.int .i64 q.re.k) := hcell 5 _ rfl
    have k6 : wr.cell? ⟨b, o + i * 10 + 6, none⟩ = some (.int .i64 q.re.a) := hcell 6 _ rfl
    have k7 : wr.cell? ⟨b, o + i * 10 + 7, none⟩ = some (.int .i64 q.re.n) := hcell 7 _ rfl
    have k8 : wr.cell? ⟨b, o + i * 10 + 8, none⟩ = some (.string q.re.nm) := hcell 8 _ rfl
    have k9 : wr.cell? ⟨b, o + i * 10 + 9, none⟩ = some (.slice q.re.args.ad q.re.args.len q.re.args.cap) := hcell 9 _ rfl
    have hcN : (wr.alloc (Obj.cells q.cells 54)).cell? ⟨w.heap.size, 0, none⟩ = some (.slice s.ad s.len s.cap) := (hbN.cell (p := ⟨w.heap.size, 0, none⟩) (by show w.heap.size < _; omega)).trans hc0
    have HCN := Hd hcN
    clear hlies hrd hy hdr hbN hcell hcN
    rw [had]
    rw [had] at hc0
    unfold Tk.F.cells at HCN HRD HBN hsN HBX
    have m0 := (uh HBX) 0 (.int .i64 q.a) rfl
    have m1 := (uh HBX) 1 (.string q.nm) rfl
    have m2 := (uh HBX) 2 (.slice q.ps.ad q.ps.len q.ps.cap) rfl
    have m3 := (uh HBX) 3 (.slice q.vs.ad q.vs.len q.vs.cap) rfl
    have m4 := (uh HBX) 4 (.slice q.cs.ad q.cs.len q.cs.cap) rfl
    have m5 := (uh HBX) 5 (.int .i64 q.re.k) rfl
    have m6 := (uh HBX) 6 (.int .i64 q.re.a) rfl
    have m7 := (uh HBX) 7 (.int .i64 q.re.n) rfl
    have m8 := (uh HBX) 8 (.string q.re.nm) rfl
    have m9 := (uh HBX) 9 (.slice q.re.args.ad q.re.args.len q.re.args.cap) rfl
    have HPX := Hd (fun (W : World) (hb : Below (wr.alloc (Obj.cells #[.int .i64 q.a, .string q.nm, .slice q.ps.ad q.ps.len q.ps.cap, .slice q.vs.ad q.vs.len q.vs.cap, .slice q.cs.ad q.cs.len q.cs.cap, .int .i64 q.re.k, .int .i64 q.re.a, .int .i64 q.re.n, .string q.re.nm, .slice q.re.args.ad q.re.args.len q.re.args.cap] 54)).heap.size (wr.alloc (Obj.cells #[.int .i64 q.a, .string q.nm, .slice q.ps.ad q.ps.len q.ps.cap, .slice q.vs.ad q.vs.len q.vs.cap, .slice q.cs.ad q.cs.len q.cs.cap, .int .i64 q.re.k, .int .i64 q.re.a, .int .i64 q.re.n, .string q.re.nm, .slice q.re.args.ad q.re.args.len q.re.args.cap] 54)) W) => ZcZ m q.re y.re W 15 ((uh HRD).re.later hb Zl) (by omega) (by omega))
    have HCC := Hd (fun (W : World) (hb : Below (wr.alloc (Obj.cells #[.int .i64 q.a, .string q.nm, .slice q.ps.ad q.ps.len q.ps.cap, .slice q.vs.ad q.vs.len q.vs.cap, .slice q.cs.ad q.cs.len q.cs.cap, .int .i64 q.re.k, .int .i64 q.re.a, .int .i64 q.re.n, .string q.re.nm, .slice q.re.args.ad q.re.args.len q.re.args.cap] 54)).heap.size (wr.alloc (Obj.cells #[.int .i64 q.a, .string q.nm, .slice q.ps.ad q.ps.len q.ps.cap, .slice q.vs.ad q.vs.len q.vs.cap, .slice q.cs.ad q.cs.len q.cs.cap, .int .i64 q.re.k, .int .i64 q.re.a, .int .i64 q.re.n, .string q.re.nm, .slice q.re.args.ad q.re.args.len q.re.args.cap] 54)) W) => Zg2 n q.cs y.cs W 1 ((uh HRD).cs.laterC hb Zl) (by omega) (by omega))
    unfold Tk.E.val at HPX
    have hp := Zfn (Zab m y.re)
    obtain ⟨hp1, hp2, hp3⟩ := hp
    have hq := Zdw n 1 y.cs
    obtain ⟨hq1, hq2, -⟩ := hq
    generalize Zab m y.re = pr at *
    generalize Za9 15 pr = cr at *
    generalize ZaL n 1 y.cs = cc at *
    by_cases h3 : 3 < q.ps.len
    · have g3 : (3 : Int) < (q.ps.len : Int) := by omega
      have hfin : Hid (z = true) := by show _ = _; rw [uh HZ, uh HL, decide_eq_true (show 3 < y.ps.length by omega)]; rfl
      clear hpl hvl
      go_wp2_with fail
      go_ret
      exact ⟨Zaj (uh hfin).symm, (uh HB).trans ((uh HBN).mono (by omega))⟩
    have g3 : ¬ (3 : Int) < (q.ps.len : Int) := by omega
    by_cases h4 : 6 < q.vs.len
    · have g4 : (6 : Int) < (q.vs.len : Int) := by omega
      have hfin : Hid (z = true) := by show _ = _; rw [uh HZ, uh HL, decide_eq_true (show 6 < y.vs.length by omega)]; simp
      clear hpl hvl
      go_wp2_with fail
      go_ret
      exact ⟨Zaj (uh hfin).symm, (uh HB).trans ((uh HBN).mono (by omega))⟩
    have g4 : ¬ (6 : Int) < (q.vs.len : Int) := by omega
    replace HL := Hd (show ZbD 0 l = (decide (15 < pr) || ZbD (c + cc) (l.drop (i + 1))) by rw [uh HL, decide_eq_false (show ¬ 3 < y.ps.length by omega), decide_eq_false (show ¬ 6 < y.vs.length by omega)]; simp)
    clear hpl hvl
    go_wp2_with fail
    generalize (wr.alloc (Obj.cells #[.int .i64 q.a, .string q.nm, .slice q.ps.ad q.ps.len q.ps.cap, .slice q.vs.ad q.vs.len q.vs.cap, .slice q.cs.ad q.cs.len q.cs.cap, .int .i64 q.re.k, .int .i64 q.re.a, .int .i64 q.re.n, .string q.re.nm, .slice q.re.args.ad q.re.args.len q.re.args.cap] 54)) = wN at *
    refine ((uh HPX) wN Zr).mono ?_
    rintro r w1 ⟨rfl, hb1⟩
    have HB1 := Hd hb1
    replace HBX := Hd ((uh HBX).below hb1 (by omega))
    have hs1 := hb1.size
    clear hb1 HPX k0 k1 k2 k3 k4 k5 k6 k7 k8 k9 m0 m1 m2 m3 m4 m5 m6 m7 m8 m9 hc0
    by_cases h5 : 15 < pr
    · have g5 : 15 < cr := hp1.2 h5
      have hfin : Hid (z = true) := by show _ = _; rw [uh HZ, uh HL, decide_eq_true h5]; rfl
      clear hp1 h5
      go_wp2_with fail
      go_ret
      exact ⟨Zaj (uh hfin).symm, (uh HB).trans (((uh HBN).trans ((uh HB1).mono (by omega))).mono (by omega))⟩
    have g5 : ¬ 15 < cr := fun h => h5 (hp1.1 h)
    replace HL := Hd (show ZbD 0 l = ZbD (c + cc) (l.drop (i + 1)) by rw [uh HL, decide_eq_false h5]; rfl)
    have m4 := (uh HBX) 4 (.slice q.cs.ad q.cs.len q.cs.cap) rfl
    have hw1 : IntKind.i64.wrap (c + cc) = c + cc := by rw [IntKind.wrap_i64]; omega
    clear hp1 h5
    go_wp2_with fail
    refine ((uh HCC) w1 (uh HB1)).mono ?_
    rintro r w2 ⟨rfl, hb2⟩
    have HB2 := Hd ((uh HBN).trans (((uh HB1).trans (hb2.mono hs1)).mono (by omega)))
    clear hb2 HCC m4
    go_wp2_with fail
    exact ⟨⟨i + 1, _, by omega, by go_num, rfl, uh HL, by omega, by omega, uh HB2⟩, by simp [intOf]; omega⟩
  have hfin : Hid (z = decide (40 < c)) := by
   show _ = _
   rw [uh HZ, hl, List.drop_eq_nil_of_le (by have := uh HLN; omega)]
   rfl
  have hc0 : wr.cell? ⟨w.heap.size, 0, none⟩ = some (.slice s.ad s.len s.cap) := ((uh HBE).cell (p := ⟨w.heap.size, 0, none⟩) (by show w.heap.size < _; omega)).trans (uh HC0)
  clear hl
  go_wp2_with fail
  go_ret
  exact ⟨Zaj (uh hfin).symm, (uh HB).trans ((uh HBE).mono (by omega))⟩
theorem ZlO {m n : Nat} (y : Tk.FT m n) (q : Tk.F) (hn : q.nm = y.nm) (hp : q.ps.len = y.ps.length) (d : Bool) : ZaR y d = ((if d = true then q.nm.toList.isEmpty && Zb3 m y.re && ((q.ps.len : Int) == 0) else Zam q.nm && Zac m y.re) && y.ps.all Zam && y.vs.all Za5 && y.cs.all (Zaf n)) := by
 unfold ZaR Zar Zan
 rw [← hn]
 cases d
 · generalize Zam q.nm = a1
   generalize y.ps.all Zam = a2
   generalize y.vs.all Za5 = a3
   generalize y.cs.all (Zaf n) = a4
   cases a1 <;> cases a2 <;> cases a3 <;> cases a4 <;> simp
 have e : (!(true && decide (0 < y.ps.length))) = ((q.ps.len : Int) == 0) := by
  rw [hp]
  cases y.ps with
  | nil => rfl
  | cons x r =>
   have h1 : (((x :: r).length : Int) == 0) = false := by rw [beq_eq_false_iff_ne, Zo]; omega
   rw [h1]
   simp
 rw [e]
 generalize ((q.ps.len : Int) == 0) = a1
 generalize y.ps.all Zam = a2
 generalize y.vs.all Za5 = a3
 generalize y.cs.all (Zaf n) = a4
 generalize q.nm.toList.isEmpty = a5
 cases a1 <;> cases a2 <;> cases a3 <;> cases a4 <;> cases a5 <;> simp
theorem ZhS {m n : Nat} {l : List (Tk.FT m n)} {i : Nat} {y : Tk.FT m n} (h : l[i]? = some y) : ZaC (l.drop i) = (ZaR y ((i : Int) == (l.length : Int) - 1) && ZaC (l.drop (i + 1))) := by
 have hlt := (List.getElem?_eq_some_iff.1 h).1
 rw [ZcQ h]
 show (ZaR y (l.drop (i + 1)).isEmpty && _) = _
 have e : (l.drop (i + 1)).isEmpty = ((i : Int) == (l.length : Int) - 1) := by
  have hx : (l.drop (i + 1)).length = l.length - (i + 1) := List.length_drop
  cases hd : l.drop (i + 1) with
  | nil =>
   rw [hd] at hx
   have h2 : l.length - (i + 1) = 0 := hx.symm
   show true = _
   rw [eq_comm, beq_iff_eq]
   omega
  | cons x r =>
   rw [hd, Zo] at hx
   show false = _
   rw [eq_comm, beq_eq_false_iff_ne]
   omega
 rw [e]
structure Ct.F (T : Array Value) (ax i : Nat) : Prop where
 size : T.size = 104
 s1 : T[1]? = some (.pointer (some ⟨ax, 0, none⟩))
 s3 : T[3]? = some (.int .i64 (i : Nat))
structure Ct.M (T : Array Value) (ax i bx : Nat) (c : Bool) : Prop where
 size : T.size = 104
 s1 : T[1]? = some (.pointer (some ⟨ax, 0, none⟩))
 s3 : T[3]? = some (.int .i64 (i : Nat))
 s4 : T[4]? = some (.pointer (some ⟨bx, 0, none⟩))
 s5 : T[5]? = some (.bool c)
theorem Ct.M.kp {T T' : Array Value} {ax i bx : Nat} {c : Bool} (h : Ct.M T ax i bx c) (k : Fq.Kp 6 T T') : Ct.M T' ax i bx c :=
 ⟨k.size.trans h.size, (k.at_ 1 (by omega)).trans h.s1, (k.at_ 3 (by omega)).trans h.s3, (k.at_ 4 (by omega)).trans h.s4, (k.at_ 5 (by omega)).trans h.s5⟩
theorem Ct.M.put {T T' : Array Value} {ax i bx : Nat} {c d : Bool} (h : Ct.M T ax i bx c) (k : Fq.Kp 5 T T') (g : T'[5]? = some (.bool d)) : Ct.M T' ax i bx d :=
 ⟨k.size.trans h.size, (k.at_ 1 (by omega)).trans h.s1, (k.at_ 3 (by omega)).trans h.s3, (k.at_ 4 (by omega)).trans h.s4, g⟩
theorem Ct.all_take {α : Type} (p : α → Bool) (l : List α) (k : Nat) (x : α) (h : l[k]? = some x) : (l.take (k + 1)).all p = ((l.take k).all p && p x) := by
 have hlt := (List.getElem?_eq_some_iff.1 h).1
 rw [List.take_succ_eq_append_getElem hlt, (List.getElem?_eq_some_iff.1 h).2, List.all_append]
 simp
theorem Zk8 {w : World} {ax i bx : Nat} {q : Tk.F} {l : List ByteArray} (hrs : Tk.RS w 1 (ZeF w) Zcv q.ps l) (hbx : bx < w.heap.size) (hbv : Tk.BV w bx q.cells) {d : Bool} {U : Array Value} (hM : Ct.M U ax i bx d) (h0 : U[6]? = some (.int .i64 ((0 : Nat) : Int))) {Q : Exit → Act → World → Prop}
  (hQ : ∀ U' v, Ct.M U' ax i bx (d && l.all Zam) → Below w.heap.size w v → Q .normal ⟨U', []⟩ v) :
  (Fq.blk Tryz.f11 2).wp Tryz.prog (Exit.inBlock 2 Q) ⟨U, []⟩ w := by
 refine ZdM Tryz.f11 2 (by kernel_rfl) ?_
 have hln := hrs.len
 have hfw := hrs.few
 refine wp_loop_ghost (fun e a v => ∃ (U' : Array Value) (k : Nat), a = ⟨U', []⟩ ∧ k ≤ q.ps.len ∧ e = q.ps.len - k ∧ Ct.M U' ax i bx (d && (l.take k).all Zam) ∧ U'[6]? = some (.int .i64 (k : Nat)) ∧ Below w.heap.size w v) q.ps.len ⟨U, 0, rfl, Nat.zero_le _, rfl, by rw [List.take_zero, List.all_nil, Bool.and_true]; exact hM, h0, Zr⟩ ?_
 rintro e a v ⟨Ua, k, rfl, hka, rfl, hMa, h6a, hbv2⟩
 have x2 : v.cell? ⟨bx, 2, none⟩ = some (.slice q.ps.ad q.ps.len q.ps.cap) := (hbv.below hbv2 hbx) 2 _ rfl
 refine wp_seq (wp_seq ?_)
 refine Fq.at_ Tryz.f11 13 (by kernel_rfl) ?_
 refine ct_r13 hMa.size hMa.s4 h6a x2 rfl (fun Ub ⟨kb, hcb⟩ => ?_)
 have hMb := hMa.kp (kb.mono (by omega))
 have h6b := (kb.at_ 6 (by omega)).trans h6a
 refine Fq.ok (Fq.cond 58 hcb (fun hb => ?_) (fun hb => ?_))
 · have hkt : k < q.ps.len := by have := of_decide_eq_true hb; omega
   have hkt2 : k < l.length := by omega
   have hyk := Zg hkt2
   have hta := Ct.all_take Zam l k _ hyk
   obtain ⟨ba, oa, t, had', hb', hlies', hrd', hts⟩ := hrs.at_ k _ hyk
   generalize l[k] = u at *
   subst hrd'
   have y0 : v.cell? ⟨ba, oa + k, none⟩ = some (.string t) := by
    have h1 : w.cell? ⟨ba, oa + k * 1, none⟩ = some (.string t) := hlies'
    rw [Nat.mul_one] at h1
    exact (hbv2.cell (p := ⟨ba, oa + k, none⟩) hb').trans h1
   rw [had'] at x2
   refine Fq.skip (Fq.ok (wp_seq (wp_block ?_)))
   refine Fq.at_ Tryz.f11 15 (by kernel_rfl) ?_
   refine ct_r15 hMb.size hMb.s4 hMb.s5 h6b x2 hkt y0 (ZbB t v hts) (fun Uc vc ⟨kc, e5, e6, hbc⟩ => ?_)
   rw [Bool.and_assoc, ← hta] at e5
   have hMc := hMb.put kc e5
   refine Zgv (Fq.ok ?_)
   refine Fq.at_ Tryz.f11 14 (by kernel_rfl) ?_
   refine ct_r14 hMc.size e6 (by omega) (fun Ud ⟨kd, h6d⟩ => ?_)
   exact ⟨q.ps.len - (k + 1), by omega, Ud, k + 1, rfl, by omega, rfl, hMc.kp kd, h6d, hbv2.trans (hbc.mono hbv2.size)⟩
 have hge : k = q.ps.len := by have := of_decide_eq_false hb; omega
 subst hge
 rw [List.take_of_length_le (by omega)] at hMb
 refine wp_exit ?_
 refine ZdK (ZdK (Zh1 ?_))
 exact hQ _ _ hMb hbv2
theorem Zmj {w : World} {ax i bx : Nat} {q : Tk.F} {l : List (ByteArray × Int)} (hrs : Tk.RS w 2 (Zew w) Zfe q.vs l) (hbx : bx < w.heap.size) (hbv : Tk.BV w bx q.cells) {d : Bool} {U : Array Value} (hM : Ct.M U ax i bx d) (h0 : U[7]? = some (.int .i64 ((0 : Nat) : Int))) {Q : Exit → Act → World → Prop}
  (hQ : ∀ U' v, Ct.M U' ax i bx (d && l.all Za5) → Below w.heap.size w v → Q .normal ⟨U', []⟩ v) :
  (Fq.blk Tryz.f11 4).wp Tryz.prog (Exit.inBlock 4 Q) ⟨U, []⟩ w := by
 refine ZdM Tryz.f11 4 (by kernel_rfl) ?_
 have hln := hrs.len
 have hfw := hrs.few
 refine wp_loop_ghost (fun e a v => ∃ (U' : Array Value) (k : Nat), a = ⟨U', []⟩ ∧ k ≤ q.vs.len ∧ e = q.vs.len - k ∧ Ct.M U' ax i bx (d && (l.take k).all Za5) ∧ U'[7]? = some (.int .i64 (k : Nat)) ∧ Below w.heap.size w v) q.vs.len ⟨U, 0, rfl, Nat.zero_le _, rfl, by rw [List.take_zero, List.all_nil, Bool.and_true]; exact hM, h0, Zr⟩ ?_
 rintro e a v ⟨Ua, k, rfl, hka, rfl, hMa, h6a, hbv2⟩
 have x3 : v.cell? ⟨bx, 3, none⟩ = some (.slice q.vs.ad q.vs.len q.vs.cap) := (hbv.below hbv2 hbx) 3 _ rfl
 refine wp_seq (wp_seq ?_)
 refine Fq.at_ Tryz.f11 17 (by kernel_rfl) ?_
 refine ct_r17 hMa.size hMa.s4 h6a x3 rfl (fun Ub ⟨kb, hcb⟩ => ?_)
 have hMb := hMa.kp (kb.mono (by omega))
 have h6b := (kb.at_ 7 (by omega)).trans h6a
 refine Fq.ok (Fq.cond 74 hcb (fun hb => ?_) (fun hb => ?_))
 · have hkt : k < q.vs.len := by have := of_decide_eq_true hb; omega
   have hkt2 : k < l.length := by omega
   have hyk := Zg hkt2
   have hta := Ct.all_take Za5 l k _ hyk
   obtain ⟨ba, oa, ⟨t, z⟩, had', hb', ⟨hl0, hl1⟩, hrd', hts⟩ := hrs.at_ k _ hyk
   generalize l[k] = u at *
   subst hrd'
   rw [had'] at x3
   have hcl : ∀ V, Below v.heap.size v V → V.cell? ⟨bx, 3, none⟩ = some (.slice (some ⟨ba, oa, none⟩) q.vs.len q.vs.cap) ∧ V.cell? ⟨ba, oa + k * 2, none⟩ = some (.string t) ∧ V.cell? ⟨ba, oa + k * 2 + 1, none⟩ = some (.int .i64 z) := fun V hV =>
    ⟨(hV.cell (p := ⟨bx, 3, none⟩) (Nat.lt_of_lt_of_le hbx hbv2.size)).trans x3, ((hbv2.trans (hV.mono hbv2.size)).cell (p := ⟨ba, oa + k * 2, none⟩) hb').trans hl0, ((hbv2.trans (hV.mono hbv2.size)).cell (p := ⟨ba, oa + k * 2 + 1, none⟩) hb').trans hl1⟩
   refine Fq.skip (Fq.ok (wp_seq (wp_block ?_)))
   refine Fq.at_ Tryz.f11 19 (by kernel_rfl) ?_
   refine ct_r19 hMb.size hMb.s4 hMb.s5 h6b hcl hkt (fun V _ => ZbB t V hts) (fun V _ => (Zbz z 0 9999999 V).mono (fun r w' h => ⟨h.1, by rw [h.2]; exact Zr⟩)) (fun Uc vc ⟨kc, e5, e6, hbc⟩ => ?_)
   rw [show (Zam t && ZcL z 0 9999999) = Za5 (t, z) by unfold Za5 ZcL; rw [Bool.decide_and, Bool.and_assoc]] at e5
   rw [Bool.and_assoc, ← hta] at e5
   have hMc := hMb.put kc e5
   refine Zgv (Fq.ok ?_)
   refine Fq.at_ Tryz.f11 18 (by kernel_rfl) ?_
   refine ct_r18 hMc.size e6 (by omega) (fun Ud ⟨kd, h6d⟩ => ?_)
   exact ⟨q.vs.len - (k + 1), by omega, Ud, k + 1, rfl, by omega, rfl, hMc.kp kd, h6d, hbv2.trans (hbc.mono hbv2.size)⟩
 have hge : k = q.vs.len := by have := of_decide_eq_false hb; omega
 subst hge
 rw [List.take_of_length_le (by omega)] at hMb
 refine wp_exit ?_
 refine ZdK (ZdK (Zh1 ?_))
 exact hQ _ _ hMb hbv2
theorem ZlI {m n : Nat} {s : Tk.Sl} (htl : s.len ≤ 35184372088832) {wr : World} {b o i ax : Nat} (had : s.ad = some ⟨b, o, none⟩) (hlt : i < s.len) {q : Tk.F} {y : Tk.FT m n} (hrd : Tk.RF wr m n q y) (hAC : ∀ (s2 : Tk.Sl) (w2 : World), Tk.RS w2 17 (Tk.LC w2) (Tk.RC w2 m n) s2 y.cs → Calls Tryz.prog 31 #[.slice s2.ad s2.len s2.cap] w2 fun r w' => r = .returned (.bool (y.cs.all (Zaf n))) ∧ Below w2.heap.size w2 w')
  (hcell : ∀ j v, q.cells[j]? = some v → wr.cell? ⟨b, o + i * 10 + j, none⟩ = some v) (hax : ax < wr.heap.size) (xa : wr.cell? ⟨ax, 0, none⟩ = some (.slice s.ad s.len s.cap)) {U : Array Value} (hF : Ct.F U ax i) {d : Bool} (hd : d = ((i : Int) == (s.len : Int) - 1)) {Q : Exit → Act → World → Prop}
  (hQn : ∀ U' v, Ct.F U' ax i → Below wr.heap.size wr v → ZaR y d = true → Q .normal ⟨U', []⟩ v) (hQr : ∀ U' v, U'[2]? = some (.int .i64 1) → Below wr.heap.size wr v → ZaR y d = false → Q .ret ⟨U', []⟩ v) :
  (Fq.blk Tryz.f11 1).wp Tryz.prog Q ⟨U, []⟩ wr := by
 have hal := (Below.refl wr.heap.size wr).alloc Zl (Obj.cells q.cells 54)
 have hBV : Tk.BV (wr.alloc (Obj.cells q.cells 54)) wr.heap.size q.cells := ZcB wr q
 have hbx : wr.heap.size < (wr.alloc (Obj.cells q.cells 54)).heap.size := by simp
 have hRF := hrd.later hal Zl
 have hFUN := ZlO y q hrd.nm hrd.ps.len d
 have xb := xa
 rw [had] at xb
 refine ZdM Tryz.f11 1 (by kernel_rfl) ?_
 refine wp_seq ?_
 refine Fq.at_ Tryz.f11 8 (by kernel_rfl) ?_
 refine ct_r8 hF.size hF.s1 hF.s3 xb hlt (hcell 0 _ rfl) (hcell 1 _ rfl) (hcell 2 _ rfl) (hcell 3 _ rfl) (hcell 4 _ rfl) (hcell 5 _ rfl) (hcell 6 _ rfl) (hcell 7 _ rfl) (hcell 8 _ rfl) (hcell 9 _ rfl) (fun U1 ⟨k1, h4⟩ => ?_)
 generalize wr.alloc (Obj.cells q.cells 54) = W1 at *
 have hF1 : Ct.F U1 ax i := ⟨k1.size.trans hF.size, (k1.at_ 1 (by omega)).trans hF.s1, (k1.at_ 3 (by omega)).trans hF.s3⟩
 refine Fq.ok (wp_seq ?_)
 refine Fq.at_ Tryz.f11 9 (by kernel_rfl) ?_
 refine ct_r9 hF1.size h4 (fun V hV => ⟨(hBV.below hV hbx) 1 _ rfl, (hBV.below hV hbx) 5 _ rfl, (hBV.below hV hbx) 6 _ rfl, (hBV.below hV hbx) 7 _ rfl, (hBV.below hV hbx) 8 _ rfl, (hBV.below hV hbx) 9 _ rfl⟩) (fun V hV => ZbB q.nm V hRF.few) (fun V hV => Zea m q.re y.re V (hRF.re.later hV Zl)) (fun U2 W2 ⟨k2, h5, hb2⟩ => ?_)
 have hM2 : Ct.M U2 ax i wr.heap.size (Zam q.nm && Zac m y.re) := ⟨k2.size.trans hF1.size, (k2.at_ 1 (by omega)).trans hF1.s1, (k2.at_ 3 (by omega)).trans hF1.s3, (k2.at_ 4 (by omega)).trans h4, h5⟩
 have hBV2 := hBV.below hb2 hbx
 have hbx2 : wr.heap.size < W2.heap.size := Nat.lt_of_lt_of_le hbx hb2.size
 have hR2 : Below wr.heap.size wr W2 := hal.trans (hb2.mono hal.size)
 have hRF2 := hRF.later hb2 Zl
 have xa2 := (hR2.cell (p := ⟨ax, 0, none⟩) hax).trans xa
 refine Fq.ok ?_
 refine ZkH (fun T' v => Ct.M T' ax i wr.heap.size (if d = true then q.nm.toList.isEmpty && Zb3 m y.re && ((q.ps.len : Int) == 0) else Zam q.nm && Zac m y.re) ∧ Below W2.heap.size W2 v) (fun Q' hN => ?_) (fun U3 W3 ⟨hM3, hb3⟩ => ?_)
 · refine wp_seq ?_
   refine Fq.at_ Tryz.f11 10 (by kernel_rfl) ?_
   refine ct_r10 hM2.size hM2.s1 hM2.s3 xa2 htl hd (fun U3 ⟨k3, h39⟩ => ?_)
   have hM3 := hM2.kp k3
   refine Fq.ok (Fq.cond 39 h39 (fun hb => ?_) (fun hb => ?_))
   · refine Fq.at_ Tryz.f11 11 (by kernel_rfl) ?_
     refine ct_r11 hM3.size hM3.s4 (fun V hV => ⟨(hBV2.below hV hbx2) 1 _ rfl, (hBV2.below hV hbx2) 2 _ rfl, (hBV2.below hV hbx2) 5 _ rfl, (hBV2.below hV hbx2) 6 _ rfl, (hBV2.below hV hbx2) 7 _ rfl, (hBV2.below hV hbx2) 8 _ rfl, (hBV2.below hV hbx2) 9 _ rfl⟩) (ZeG m q.re y.re W2 hRF2.re) (fun U4 W4 ⟨k4, g5, hb4⟩ => ?_)
     exact hN _ _ ⟨by rw [if_pos hb]; exact hM3.put k4 g5, hb4⟩
   refine Fq.skip ?_
   exact hN _ _ ⟨by rw [if_neg (by rw [hb]; decide)]; exact hM3, Zr⟩
 generalize (if d = true then q.nm.toList.isEmpty && Zb3 m y.re && ((q.ps.len : Int) == 0) else Zam q.nm && Zac m y.re) = D at *
 have hBV3 := hBV2.below hb3 hbx2
 have hbx3 : wr.heap.size < W3.heap.size := Nat.lt_of_lt_of_le hbx2 hb3.size
 have hR3 : Below wr.heap.size wr W3 := hR2.trans (hb3.mono hR2.size)
 have hRF3 := hRF2.later hb3 Zl
 refine ZkH (fun T' v => Ct.M T' ax i wr.heap.size (D && y.ps.all Zam) ∧ Below W3.heap.size W3 v) (fun Q' hN => ?_) (fun U4 W4 ⟨hM4, hb4⟩ => ?_)
 · refine wp_seq ?_
   refine Fq.at_ Tryz.f11 12 (by kernel_rfl) ?_
   refine ct_r12 hM3.size (fun U5 ⟨k5, h6⟩ => ?_)
   refine Fq.ok (wp_block ?_)
   refine ZdM Tryz.f11 2 (by kernel_rfl) ?_
   exact Zk8 hRF3.ps hbx3 hBV3 (hM3.kp k5) h6 (fun U' v h hb => hN _ _ ⟨h, hb⟩)
 have hBV4 := hBV3.below hb4 hbx3
 have hbx4 : wr.heap.size < W4.heap.size := Nat.lt_of_lt_of_le hbx3 hb4.size
 have hR4 : Below wr.heap.size wr W4 := hR3.trans (hb4.mono hR3.size)
 have hRF4 := hRF3.later hb4 Zl
 refine ZkH (fun T' v => Ct.M T' ax i wr.heap.size (D && y.ps.all Zam && y.vs.all Za5) ∧ Below W4.heap.size W4 v) (fun Q' hN => ?_) (fun U5 W5 ⟨hM5, hb5⟩ => ?_)
 · refine wp_seq ?_
   refine Fq.at_ Tryz.f11 16 (by kernel_rfl) ?_
   refine ct_r16 hM4.size (fun U5 ⟨k5, h7⟩ => ?_)
   refine Fq.ok (wp_block ?_)
   refine ZdM Tryz.f11 4 (by kernel_rfl) ?_
   exact Zmj hRF4.vs hbx4 hBV4 (hM4.kp k5) h7 (fun U' v h hb => hN _ _ ⟨h, hb⟩)
 have hBV5 := hBV4.below hb5 hbx4
 have hR5 : Below wr.heap.size wr W5 := hR4.trans (hb5.mono hR4.size)
 have hRF5 := hRF4.later hb5 Zl
 refine wp_seq ?_
 refine Fq.at_ Tryz.f11 20 (by kernel_rfl) ?_
 refine ct_r20 hM5.size hM5.s4 hM5.s5 (hBV5 4 _ rfl) (hAC q.cs W5 hRF5.cs) (fun U6 W6 ⟨k6, h103, hb6⟩ => ?_)
 have hR6 : Below wr.heap.size wr W6 := hR5.trans (hb6.mono hR5.size)
 rw [← hFUN] at h103
 refine Fq.ok (Fq.cond 103 h103 (fun hb => ?_) (fun hb => ?_))
 · refine wp_seq ?_
   refine Fq.at_ Tryz.f11 21 (by kernel_rfl) ?_
   refine ct_r21 (k6.size.trans hM5.size) (fun U7 ⟨_, h2⟩ => ?_)
   refine Fq.ok (wp_ret ?_)
   repeat (first | with_reducible refine ZgG ?_ | with_reducible refine ZfA ?_)
   exact hQr _ _ h2 hR6 (by simpa using hb)
 refine Fq.skip ?_
 have hM6 := hM5.kp k6
 exact hQn _ _ ⟨hM6.size, hM6.s1, hM6.s3⟩ hR6 (by simpa using hb)
theorem ZfP {m n : Nat} (s : Tk.Sl) (l : List (Tk.FT m n)) (w : World) (hs : Tk.RT w m n s l) (hAC : ∀ f ∈ l, ∀ (s2 : Tk.Sl) (w2 : World), Tk.RS w2 17 (Tk.LC w2) (Tk.RC w2 m n) s2 f.cs → Calls Tryz.prog 31 #[.slice s2.ad s2.len s2.cap] w2 fun r w' => r = .returned (.bool (f.cs.all (Zaf n))) ∧ Below w2.heap.size w2 w') :
  Calls Tryz.prog 11 #[.agg #[.slice s.ad s.len s.cap]] w fun r w' => r = .returned (.int .i64 ((Zay l : Nat) : Int)) ∧ Below w.heap.size w w' := by
 have hlen := hs.len
 have hfew := hs.few
 refine calls_of_wp Tryz.func11 rfl ?_
 rw [show Tryz.f11.ntmps - (#[.agg #[.slice s.ad s.len s.cap]] : Array Value).size = 103 by rw [Tryz.ntmps11]; rfl]
 obtain ⟨T0, hT0⟩ : ∃ T0, T0 = #[.agg #[.slice s.ad s.len s.cap]] ++ Array.replicate 103 undef := ⟨_, rfl⟩
 have hT : T0.size = 104 := by rw [hT0, Array.size_append, Array.size_replicate]; rfl
 have s0 : T0[0]? = some (.agg #[.slice s.ad s.len s.cap]) := by rw [hT0]; simp
 rw [← hT0]
 clear hT0
 have hal := (Below.refl w.heap.size w).alloc Zl (Obj.cells #[.slice s.ad s.len s.cap] 24)
 have xa : (w.alloc (Obj.cells #[.slice s.ad s.len s.cap] 24)).cell? ⟨w.heap.size, 0, none⟩ = some (.slice s.ad s.len s.cap) := by go_simp
 have hax : w.heap.size < (w.alloc (Obj.cells #[.slice s.ad s.len s.cap] 24)).heap.size := by simp
 refine wp_seq ?_
 refine Fq.at_ Tryz.f11 0 (by kernel_rfl) ?_
 refine ct_r0 hT s0 (fun U1 ⟨k1, h1, _⟩ => ?_)
 generalize w.alloc (Obj.cells #[.slice s.ad s.len s.cap] 24) = W1 at *
 have hT1 := k1.size.trans hT
 have hs1 := Tk.RT.later hs hal Zl
 clear hs
 refine Fq.ok (wp_seq (wp_seq ?_))
 refine Fq.at_ Tryz.f11 1 (by kernel_rfl) ?_
 refine ct_r1 hT1 h1 xa (ZhE s l W1 hs1) (fun U2 W2 ⟨k2, h9, hb2⟩ => ?_)
 have hT2 := k2.size.trans hT1
 have hR2 : Below w.heap.size w W2 := hal.trans (hb2.mono hal.size)
 rw [Zjy] at h9
 refine Fq.ok (Fq.cond 9 h9 (fun hb => ?_) (fun hb => ?_))
 · refine wp_seq ?_
   refine Fq.at_ Tryz.f11 2 (by kernel_rfl) ?_
   refine ct_r2 hT2 (fun U3 ⟨_, h2⟩ => ?_)
   refine Fq.ok (wp_ret ?_)
   repeat (first | with_reducible refine ZgG ?_ | with_reducible refine ZfA ?_)
   exact Fq.ret rfl h2 ⟨by unfold Zay; rw [if_pos hb]; rfl, hR2⟩
 refine Fq.skip (Fq.ok ?_)
 have hchk : Zay l = if (ZaC l && decide (0 < l.length)) = true then 0 else 1 := by unfold Zay; rw [if_neg (by rw [hb]; decide)]
 have h1b := (k2.at_ 1 (by omega)).trans h1
 have xa2 := (hb2.cell (p := ⟨w.heap.size, 0, none⟩) hax).trans xa
 have hs2 := Tk.RT.later hs1 hb2 Zl
 have hax2 : w.heap.size < W2.heap.size := Nat.lt_of_lt_of_le hax hb2.size
 clear k1 k2 h9
 refine wp_seq (wp_seq ?_)
 refine Fq.at_ Tryz.f11 3 (by kernel_rfl) ?_
 refine ct_r3 hT2 h1b xa2 rfl (fun U3 ⟨k3, h13⟩ => ?_)
 have hT3 := k3.size.trans hT2
 refine Fq.ok (Fq.cond 13 h13 (fun hb0 => ?_) (fun hb0 => ?_))
 · refine wp_seq ?_
   refine Fq.at_ Tryz.f11 4 (by kernel_rfl) ?_
   refine ct_r4 hT3 (fun U4 ⟨_, h2⟩ => ?_)
   refine Fq.ok (wp_ret ?_)
   repeat (first | with_reducible refine ZgG ?_ | with_reducible refine ZfA ?_)
   have hl0 : l.length = 0 := by have : (s.len : Int) = 0 := by simpa using hb0
                                 omega
   exact Fq.ret rfl h2 ⟨by rw [hchk, hl0]; simp, hR2⟩
 refine Fq.skip (Fq.ok ?_)
 have hl0 : 0 < l.length := by have : ¬ (s.len : Int) = 0 := by simpa using hb0
                               omega
 have hchk2 : Zay l = if ZaC l = true then 0 else 1 := by rw [hchk, decide_eq_true hl0, Bool.and_true]
 have h1c := (k3.at_ 1 (by omega)).trans h1b
 refine wp_seq (wp_seq ?_)
 refine Fq.at_ Tryz.f11 5 (by kernel_rfl) ?_
 refine ct_r5 hT3 (fun U4 ⟨k4, h3⟩ => ?_)
 have hF : Ct.F U4 w.heap.size 0 := ⟨k4.size.trans hT3, (k4.at_ 1 (by omega)).trans h1c, h3⟩
 refine Fq.ok ?_
 refine wp_block ?_
 refine wp_loop_ghost (fun e a v => ∃ (U' : Array Value) (i : Nat), a = ⟨U', []⟩ ∧ i ≤ s.len ∧ e = s.len - i ∧ Ct.F U' w.heap.size i ∧ ZaC l = ZaC (l.drop i) ∧ Below W2.heap.size W2 v) s.len ⟨U4, 0, rfl, Nat.zero_le _, rfl, hF, rfl, Zr⟩ ?_
 rintro e a v ⟨Ua, i, rfl, hi, rfl, hFa, hSi, hbv⟩
 have xav := (hbv.cell (p := ⟨w.heap.size, 0, none⟩) hax2).trans xa2
 refine wp_seq (wp_seq ?_)
 refine Fq.at_ Tryz.f11 6 (by kernel_rfl) ?_
 refine ct_r6 hFa.size hFa.s1 hFa.s3 xav (by omega) rfl (fun Ub ⟨kb, h18⟩ => ?_)
 have hFb : Ct.F Ub w.heap.size i := ⟨kb.size.trans hFa.size, (kb.at_ 1 (by omega)).trans hFa.s1, (kb.at_ 3 (by omega)).trans hFa.s3⟩
 refine Fq.ok ?_
 refine Fq.cond 18 h18 (fun hb => ?_) (fun hb => ?_)
 · have hlt : i < s.len := by have := of_decide_eq_true hb; omega
   have hlt2 : i < l.length := by omega
   have hy := Zg hlt2
   obtain ⟨b, o, q, had, hbb, hlies, hrd⟩ := hs2.at_ i _ hy
   have hwt := ZhS hy
   rw [← hlen] at hwt
   refine Fq.skip ?_
   refine Fq.ok ?_
   refine wp_seq (wp_block ?_)
   refine ZdM Tryz.f11 1 (by kernel_rfl) ?_
   refine ZlI (by omega) had hlt (hrd.later hbv Zl) (hAC _ (List.getElem_mem hlt2)) ((hlies.later hbv Zl hbb).cells) (Nat.lt_of_lt_of_le hax2 hbv.size) xav hFb rfl (fun Uc vc hFc hbc hf => ?_) (fun Uc vc h2 hbc hf => ?_)
   · refine Zgv (Fq.ok ?_)
     refine Fq.at_ Tryz.f11 7 (by kernel_rfl) ?_
     refine ct_r7 hFc.size hFc.s3 (by omega) (fun Ud ⟨kd, hd3⟩ => ?_)
     exact ⟨s.len - (i + 1), by omega, Ud, i + 1, rfl, by omega, rfl, ⟨kd.size.trans hFc.size, (kd.at_ 1 (by omega)).trans hFc.s1, hd3⟩, by rw [hSi, hwt, hf, Bool.true_and], hbv.trans (hbc.mono hbv.size)⟩
   repeat (first | with_reducible refine ZgG ?_ | with_reducible refine ZfA ?_)
   have hbe := hbv.trans (hbc.mono hbv.size)
   exact Fq.ret rfl h2 ⟨by rw [hchk2, hSi, hwt, hf]; rfl, hR2.trans (hbe.mono hR2.size)⟩
 have hge : i = s.len := by have := of_decide_eq_false hb; omega
 subst hge
 refine wp_exit ?_
 refine ZdK (ZdK (Zh1 (Fq.ok ?_)))
 refine wp_seq ?_
 refine Fq.at_ Tryz.f11 22 (by kernel_rfl) ?_
 refine ct_r22 hFb.size (fun Ue ⟨_, h2⟩ => ?_)
 refine Fq.ok (wp_ret ?_)
 exact Fq.ret rfl h2 ⟨by rw [hchk2, hSi, List.drop_eq_nil_of_le (by omega)]; rfl, hR2.trans (hbv.mono hR2.size)⟩
theorem Zff {m n : Nat} (s : Tk.Sl) (l : List (Tk.FT m n)) (w : World) (hs : Tk.RT w m n s l) (h35 : ∀ f ∈ l, ∀ y ∈ f.cs, Dk.k35 n y) : Calls Tryz.prog 11 #[.agg #[.slice s.ad s.len s.cap]] w fun r w' => r = .returned (.int .i64 ((Zay l : Nat) : Int)) ∧ Below w.heap.size w w' :=
 ZfP s l w hs (fun f hf s2 w2 h => ZiH n s2 f.cs w2 h (h35 f hf))
end Go.Proofs.YtfccpddehpgfoaaGreatDoor
