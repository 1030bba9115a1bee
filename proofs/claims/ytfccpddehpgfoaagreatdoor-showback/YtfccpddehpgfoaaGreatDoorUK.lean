/- By the verifier. -/
import Derived.Test.YtfccpddehpgfoaaGreatDoorXO
set_option maxRecDepth 100000
set_option maxHeartbeats 3200000
namespace Go.Proofs.YtfccpddehpgfoaaGreatDoor
open Go.RowKit
set_option linter.unusedVariables false
section
variable {T : Array Value} {w : World} {Q : Exit → Act → World → Prop} {q : Tk.C} {s : Tk.Sl} {bx i : Nat}
theorem ac_r4 {b o : Nat} (hT : T.size = 147) (s0 : T[0]? = some (.slice s.ad s.len s.cap)) (s3 : T[3]? = some (.int .i64 (i : Nat))) (had : s.ad = some ⟨b, o, none⟩) (hlt : i < s.len) (hcell : ∀ j v, q.cells[j]? = some v → w.cell? ⟨b, o + i * 17 + j, none⟩ = some v)
  (hQ : ∀ T', (Fq.Kp 4 T T' ∧ T'[4]? = some (.pointer (some ⟨w.heap.size, 0, none⟩))) → Q .normal ⟨T', []⟩ (w.alloc (Obj.cells q.cells 56))) : (ZaI Tryz.f31 4).wp Tryz.prog Q ⟨T, []⟩ w := by
 conv => arg 2; whnf
 have e : T = (T.toList).toArray := by simp
 rw [had] at s0
 refine Zlx e ?_
 refine Zd5 (cs := q.cells) (z := (Tk.C.zero).cells) (b := b) (o := o) (i := i) (a0 := 0) (a1 := 3) (p := 19) (q := 20) (tA := 21) (tL := 22) (tB := 4) rfl rfl rfl rfl rfl rfl rfl rfl rfl rfl rfl rfl rfl rfl rfl rfl rfl rfl (by simpa using s0) (by simpa using s3) (by simp [hT]) (by simp [hT]) (by decide) (by decide) hlt (by simp [hT]) (by simp [hT]) (by simp [hT]) (by decide) (by decide) Tryz.underlying49 ZaZ rfl rfl Tryz.underlying56 rfl hcell (Tk.C.one q) ?_
 refine hQ _ ⟨⟨by simp, fun k hk => ?_⟩, ?_⟩
 · rw [List.getElem?_toArray, List.getElem?_set_ne (by omega), List.getElem?_set_ne (by omega), List.getElem?_set_ne (by omega), List.getElem?_set_ne (by omega), List.getElem?_set_ne (by omega), Array.getElem?_toList]
 rw [List.getElem?_toArray, List.getElem?_set_self (by simp [hT])]
theorem ac_r0 (hT : T.size = 147)
  (hQ : ∀ T', (Fq.Kp 2 T T' ∧ T'[2]? = some (.bool false)) → Q .normal ⟨T', []⟩ (w)) : (ZaI Tryz.f31 0).wp Tryz.prog Q ⟨T, []⟩ w := by
 have hu : undef = Value.tuple #[] := rfl
 have HQ := Hd hQ
 clear hQ
 conv => arg 2; whnf
 go_wp2_with fail
 exact (uh HQ) _ ⟨(by (repeat (with_reducible refine Fq.Kp.set ?_ (by decide) _)); with_reducible exact Fq.Kp.refl _ _), Zag _ (by simp [hT]) _⟩
theorem ac_r1 (hT : T.size = 147)
  (hQ : ∀ T', (Fq.Kp 3 T T' ∧ T'[3]? = some (.int .i64 0)) → Q .normal ⟨T', []⟩ (w)) : (ZaI Tryz.f31 1).wp Tryz.prog Q ⟨T, []⟩ w := by
 have hu : undef = Value.tuple #[] := rfl
 have HQ := Hd hQ
 clear hQ
 conv => arg 2; whnf
 go_wp2_with fail
 exact (uh HQ) _ ⟨(by (repeat (with_reducible refine Fq.Kp.set ?_ (by decide) _)); with_reducible exact Fq.Kp.refl _ _), Zag _ (by simp [hT]) _⟩
theorem ac_r2 {VB : Bool} (hT : T.size = 147) (s0 : T[0]? = some (.slice s.ad s.len s.cap)) (s3 : T[3]? = some (.int .i64 (i : Nat))) (htl : s.len ≤ 35184372088832) (hVB : decide ((i : Int) < (s.len : Int)) = VB)
  (hQ : ∀ T', (Fq.Kp 13 T T' ∧ T'[16]? = some (.bool VB)) → Q .normal ⟨T', []⟩ (w)) : (ZaI Tryz.f31 2).wp Tryz.prog Q ⟨T, []⟩ w := by
 have a0 := fun h => Fq.el s0 h
 have d0 := ZaG s0
 have a3 := fun h => Fq.el s3 h
 have d3 := ZaG s3
 have hu : undef = Value.tuple #[] := rfl
 have HQ := Hd hQ
 clear hQ
 conv => arg 2; whnf
 cases VB
 · have hlt : ¬ (i : Int) < (s.len : Int) := of_decide_eq_false hVB
   clear hVB
   go_wp2_with fail
   exact (uh HQ) _ ⟨(by (repeat (with_reducible refine Fq.Kp.set ?_ (by decide) _)); with_reducible exact Fq.Kp.refl _ _), Zag _ (by simp [hT]) _⟩
 have hlt : (i : Int) < (s.len : Int) := of_decide_eq_true hVB
 clear hVB
 go_wp2_with fail
 exact (uh HQ) _ ⟨(by (repeat (with_reducible refine Fq.Kp.set ?_ (by decide) _)); with_reducible exact Fq.Kp.refl _ _), Zag _ (by simp [hT]) _⟩
theorem ac_r3 (hT : T.size = 147) (s3 : T[3]? = some (.int .i64 (i : Nat))) (htl : i < 35184372088832)
  (hQ : ∀ T', (Fq.Kp 3 T T' ∧ T'[3]? = some (.int .i64 ((i + 1 : Nat) : Int))) → Q .normal ⟨T', []⟩ (w)) : (ZaI Tryz.f31 3).wp Tryz.prog Q ⟨T, []⟩ w := by
 have a3 := fun h => Fq.el s3 h
 have d3 := ZaG s3
 have hu : undef = Value.tuple #[] := rfl
 have HQ := Hd hQ
 clear hQ
 conv => arg 2; whnf
 have hc : ((i + 1 : Nat) : Int) = (i : Int) + 1 := by omega
 have hw0 : IntKind.i64.wrap ((i : Int) + 1) = (i : Int) + 1 := by rw [IntKind.wrap_i64]; omega
 rw [hc] at HQ
 go_wp2_with fail
 exact (uh HQ) _ ⟨(by (repeat (with_reducible refine Fq.Kp.set ?_ (by decide) _)); with_reducible exact Fq.Kp.refl _ _), Zag _ (by simp [hT]) _⟩
theorem ac_r7 (hT : T.size = 147) (s4 : T[4]? = some (.pointer (some ⟨bx, 0, none⟩))) (x0 : w.cell? ⟨bx, 0, none⟩ = some (.int .i64 q.k))
  (hQ : ∀ T', (Fq.Kp 12 T T' ∧ T'[48]? = some (.int .i64 q.k)) → Q .normal ⟨T', []⟩ (w)) : (ZaI Tryz.f31 7).wp Tryz.prog Q ⟨T, []⟩ w := by
 have a4 := fun h => Fq.el s4 h
 have d4 := ZaG s4
 have hu : undef = Value.tuple #[] := rfl
 have HQ := Hd hQ
 clear hQ
 conv => arg 2; whnf
 go_wp2_with fail
 exact (uh HQ) _ ⟨(by (repeat (with_reducible refine Fq.Kp.set ?_ (by decide) _)); with_reducible exact Fq.Kp.refl _ _), Zag _ (by simp [hT]) _⟩
theorem ac_r9 {VB : Bool} (hT : T.size = 147) (s48 : T[48]? = some (.int .i64 q.k)) (hVB : VB = (q.k == 1))
  (hQ : ∀ T', (Fq.Kp 12 T T' ∧ T'[49]? = some (.bool VB) ∧ T'[48]? = some (.int .i64 q.k)) → Q .normal ⟨T', []⟩ (w)) : (ZaI Tryz.f31 9).wp Tryz.prog Q ⟨T, []⟩ w := by
 have a48 := fun h => Fq.el s48 h
 have d48 := ZaG s48
 have hu : undef = Value.tuple #[] := rfl
 have HQ := Hd hQ
 clear hQ
 conv => arg 2; whnf
 cases hR : (q.k == 1)
 · rw [hR] at hVB
   subst hVB
   go_wp2_with fail
   exact (uh HQ) _ ⟨(by (repeat (with_reducible refine Fq.Kp.set ?_ (by decide) _)); with_reducible exact Fq.Kp.refl _ _), Zag _ (by simp [hT]) _, (by (repeat (with_reducible refine (Fq.set_ne _ (by decide) _).trans ?_)); exact s48)⟩
 rw [hR] at hVB
 subst hVB
 go_wp2_with fail
 exact (uh HQ) _ ⟨(by (repeat (with_reducible refine Fq.Kp.set ?_ (by decide) _)); with_reducible exact Fq.Kp.refl _ _), Zag _ (by simp [hT]) _, (by (repeat (with_reducible refine (Fq.set_ne _ (by decide) _).trans ?_)); exact s48)⟩
theorem ac_r11 {VB : Bool} (hT : T.size = 147) (s48 : T[48]? = some (.int .i64 q.k)) (hVB : VB = (q.k == 2))
  (hQ : ∀ T', (Fq.Kp 12 T T' ∧ T'[57]? = some (.bool VB) ∧ T'[48]? = some (.int .i64 q.k)) → Q .normal ⟨T', []⟩ (w)) : (ZaI Tryz.f31 11).wp Tryz.prog Q ⟨T, []⟩ w := by
 have a48 := fun h => Fq.el s48 h
 have d48 := ZaG s48
 have hu : undef = Value.tuple #[] := rfl
 have HQ := Hd hQ
 clear hQ
 conv => arg 2; whnf
 cases hR : (q.k == 2)
 · rw [hR] at hVB
   subst hVB
   go_wp2_with fail
   exact (uh HQ) _ ⟨(by (repeat (with_reducible refine Fq.Kp.set ?_ (by decide) _)); with_reducible exact Fq.Kp.refl _ _), Zag _ (by simp [hT]) _, (by (repeat (with_reducible refine (Fq.set_ne _ (by decide) _).trans ?_)); exact s48)⟩
 rw [hR] at hVB
 subst hVB
 go_wp2_with fail
 exact (uh HQ) _ ⟨(by (repeat (with_reducible refine Fq.Kp.set ?_ (by decide) _)); with_reducible exact Fq.Kp.refl _ _), Zag _ (by simp [hT]) _, (by (repeat (with_reducible refine (Fq.set_ne _ (by decide) _).trans ?_)); exact s48)⟩
theorem ac_r13 {VB : Bool} (hT : T.size = 147) (s48 : T[48]? = some (.int .i64 q.k)) (hVB : VB = (q.k == 3))
  (hQ : ∀ T', (Fq.Kp 12 T T' ∧ T'[68]? = some (.bool VB) ∧ T'[48]? = some (.int .i64 q.k)) → Q .normal ⟨T', []⟩ (w)) : (ZaI Tryz.f31 13).wp Tryz.prog Q ⟨T, []⟩ w := by
 have a48 := fun h => Fq.el s48 h
 have d48 := ZaG s48
 have hu : undef = Value.tuple #[] := rfl
 have HQ := Hd hQ
 clear hQ
 conv => arg 2; whnf
 cases hR : (q.k == 3)
 · rw [hR] at hVB
   subst hVB
   go_wp2_with fail
   exact (uh HQ) _ ⟨(by (repeat (with_reducible refine Fq.Kp.set ?_ (by decide) _)); with_reducible exact Fq.Kp.refl _ _), Zag _ (by simp [hT]) _, (by (repeat (with_reducible refine (Fq.set_ne _ (by decide) _).trans ?_)); exact s48)⟩
 rw [hR] at hVB
 subst hVB
 go_wp2_with fail
 exact (uh HQ) _ ⟨(by (repeat (with_reducible refine Fq.Kp.set ?_ (by decide) _)); with_reducible exact Fq.Kp.refl _ _), Zag _ (by simp [hT]) _, (by (repeat (with_reducible refine (Fq.set_ne _ (by decide) _).trans ?_)); exact s48)⟩
theorem ac_r19 {VB : Bool} (hT : T.size = 147) (s48 : T[48]? = some (.int .i64 q.k)) (hVB : VB = (q.k == 4))
  (hQ : ∀ T', (Fq.Kp 12 T T' ∧ T'[92]? = some (.bool VB) ∧ T'[48]? = some (.int .i64 q.k)) → Q .normal ⟨T', []⟩ (w)) : (ZaI Tryz.f31 19).wp Tryz.prog Q ⟨T, []⟩ w := by
 have a48 := fun h => Fq.el s48 h
 have d48 := ZaG s48
 have hu : undef = Value.tuple #[] := rfl
 have HQ := Hd hQ
 clear hQ
 conv => arg 2; whnf
 cases hR : (q.k == 4)
 · rw [hR] at hVB
   subst hVB
   go_wp2_with fail
   exact (uh HQ) _ ⟨(by (repeat (with_reducible refine Fq.Kp.set ?_ (by decide) _)); with_reducible exact Fq.Kp.refl _ _), Zag _ (by simp [hT]) _, (by (repeat (with_reducible refine (Fq.set_ne _ (by decide) _).trans ?_)); exact s48)⟩
 rw [hR] at hVB
 subst hVB
 go_wp2_with fail
 exact (uh HQ) _ ⟨(by (repeat (with_reducible refine Fq.Kp.set ?_ (by decide) _)); with_reducible exact Fq.Kp.refl _ _), Zag _ (by simp [hT]) _, (by (repeat (with_reducible refine (Fq.set_ne _ (by decide) _).trans ?_)); exact s48)⟩
theorem ac_r21 {VB : Bool} (hT : T.size = 147) (s48 : T[48]? = some (.int .i64 q.k)) (hVB : VB = (q.k == 5))
  (hQ : ∀ T', (Fq.Kp 12 T T' ∧ T'[97]? = some (.bool VB) ∧ T'[48]? = some (.int .i64 q.k)) → Q .normal ⟨T', []⟩ (w)) : (ZaI Tryz.f31 21).wp Tryz.prog Q ⟨T, []⟩ w := by
 have a48 := fun h => Fq.el s48 h
 have d48 := ZaG s48
 have hu : undef = Value.tuple #[] := rfl
 have HQ := Hd hQ
 clear hQ
 conv => arg 2; whnf
 cases hR : (q.k == 5)
 · rw [hR] at hVB
   subst hVB
   go_wp2_with fail
   exact (uh HQ) _ ⟨(by (repeat (with_reducible refine Fq.Kp.set ?_ (by decide) _)); with_reducible exact Fq.Kp.refl _ _), Zag _ (by simp [hT]) _, (by (repeat (with_reducible refine (Fq.set_ne _ (by decide) _).trans ?_)); exact s48)⟩
 rw [hR] at hVB
 subst hVB
 go_wp2_with fail
 exact (uh HQ) _ ⟨(by (repeat (with_reducible refine Fq.Kp.set ?_ (by decide) _)); with_reducible exact Fq.Kp.refl _ _), Zag _ (by simp [hT]) _, (by (repeat (with_reducible refine (Fq.set_ne _ (by decide) _).trans ?_)); exact s48)⟩
theorem ac_r23 {VB : Bool} (hT : T.size = 147) (s48 : T[48]? = some (.int .i64 q.k)) (hVB : VB = (q.k == 6))
  (hQ : ∀ T', (Fq.Kp 12 T T' ∧ T'[102]? = some (.bool VB) ∧ T'[48]? = some (.int .i64 q.k)) → Q .normal ⟨T', []⟩ (w)) : (ZaI Tryz.f31 23).wp Tryz.prog Q ⟨T, []⟩ w := by
 have a48 := fun h => Fq.el s48 h
 have d48 := ZaG s48
 have hu : undef = Value.tuple #[] := rfl
 have HQ := Hd hQ
 clear hQ
 conv => arg 2; whnf
 cases hR : (q.k == 6)
 · rw [hR] at hVB
   subst hVB
   go_wp2_with fail
   exact (uh HQ) _ ⟨(by (repeat (with_reducible refine Fq.Kp.set ?_ (by decide) _)); with_reducible exact Fq.Kp.refl _ _), Zag _ (by simp [hT]) _, (by (repeat (with_reducible refine (Fq.set_ne _ (by decide) _).trans ?_)); exact s48)⟩
 rw [hR] at hVB
 subst hVB
 go_wp2_with fail
 exact (uh HQ) _ ⟨(by (repeat (with_reducible refine Fq.Kp.set ?_ (by decide) _)); with_reducible exact Fq.Kp.refl _ _), Zag _ (by simp [hT]) _, (by (repeat (with_reducible refine (Fq.set_ne _ (by decide) _).trans ?_)); exact s48)⟩
theorem ac_r25 {VB : Bool} (hT : T.size = 147) (s48 : T[48]? = some (.int .i64 q.k)) (hVB : VB = (q.k == 7))
  (hQ : ∀ T', (Fq.Kp 12 T T' ∧ T'[113]? = some (.bool VB) ∧ T'[48]? = some (.int .i64 q.k)) → Q .normal ⟨T', []⟩ (w)) : (ZaI Tryz.f31 25).wp Tryz.prog Q ⟨T, []⟩ w := by
 have a48 := fun h => Fq.el s48 h
 have d48 := ZaG s48
 have hu : undef = Value.tuple #[] := rfl
 have HQ := Hd hQ
 clear hQ
 conv => arg 2; whnf
 cases hR : (q.k == 7)
 · rw [hR] at hVB
   subst hVB
   go_wp2_with fail
   exact (uh HQ) _ ⟨(by (repeat (with_reducible refine Fq.Kp.set ?_ (by decide) _)); with_reducible exact Fq.Kp.refl _ _), Zag _ (by simp [hT]) _, (by (repeat (with_reducible refine (Fq.set_ne _ (by decide) _).trans ?_)); exact s48)⟩
 rw [hR] at hVB
 subst hVB
 go_wp2_with fail
 exact (uh HQ) _ ⟨(by (repeat (with_reducible refine Fq.Kp.set ?_ (by decide) _)); with_reducible exact Fq.Kp.refl _ _), Zag _ (by simp [hT]) _, (by (repeat (with_reducible refine (Fq.set_ne _ (by decide) _).trans ?_)); exact s48)⟩
theorem ac_r28 (hT : T.size = 147)
  (hQ : ∀ T', (Fq.Kp 2 T T' ∧ T'[2]? = some (.bool false)) → Q .normal ⟨T', []⟩ (w)) : (ZaI Tryz.f31 28).wp Tryz.prog Q ⟨T, []⟩ w := by
 have hu : undef = Value.tuple #[] := rfl
 have HQ := Hd hQ
 clear hQ
 conv => arg 2; whnf
 go_wp2_with fail
 exact (uh HQ) _ ⟨(by (repeat (with_reducible refine Fq.Kp.set ?_ (by decide) _)); with_reducible exact Fq.Kp.refl _ _), Zag _ (by simp [hT]) _⟩
theorem ac_r29 (hT : T.size = 147)
  (hQ : ∀ T', (Fq.Kp 2 T T' ∧ T'[2]? = some (.bool true)) → Q .normal ⟨T', []⟩ (w)) : (ZaI Tryz.f31 29).wp Tryz.prog Q ⟨T, []⟩ w := by
 have hu : undef = Value.tuple #[] := rfl
 have HQ := Hd hQ
 clear hQ
 conv => arg 2; whnf
 go_wp2_with fail
 exact (uh HQ) _ ⟨(by (repeat (with_reducible refine Fq.Kp.set ?_ (by decide) _)); with_reducible exact Fq.Kp.refl _ _), Zag _ (by simp [hT]) _⟩
theorem ac_r15 (hT : T.size = 147)
  (hQ : ∀ T', (Fq.Kp 12 T T' ∧ T'[12]? = some (.int .i64 0)) → Q .normal ⟨T', []⟩ (w)) : (ZaI Tryz.f31 15).wp Tryz.prog Q ⟨T, []⟩ w := by
 have hu : undef = Value.tuple #[] := rfl
 have HQ := Hd hQ
 clear hQ
 conv => arg 2; whnf
 go_wp2_with fail
 exact (uh HQ) _ ⟨(by (repeat (with_reducible refine Fq.Kp.set ?_ (by decide) _)); with_reducible exact Fq.Kp.refl _ _), Zag _ (by simp [hT]) _⟩
theorem ac_r16 {k : Nat} {VB : Bool} (hT : T.size = 147) (s4 : T[4]? = some (.pointer (some ⟨bx, 0, none⟩))) (s12 : T[12]? = some (.int .i64 (k : Nat))) (x14 : w.cell? ⟨bx, 14, none⟩ = some (.slice q.args.ad q.args.len q.args.cap)) (hVB : decide ((k : Int) < (q.args.len : Int)) = VB)
  (hQ : ∀ T', (Fq.Kp 13 T T' ∧ T'[80]? = some (.bool VB)) → Q .normal ⟨T', []⟩ (w)) : (ZaI Tryz.f31 16).wp Tryz.prog Q ⟨T, []⟩ w := by
 have a4 := fun h => Fq.el s4 h
 have d4 := ZaG s4
 have a12 := fun h => Fq.el s12 h
 have d12 := ZaG s12
 have hu : undef = Value.tuple #[] := rfl
 have HQ := Hd hQ
 clear hQ
 conv => arg 2; whnf
 cases VB
 · have hlt : ¬ (k : Int) < (q.args.len : Int) := of_decide_eq_false hVB
   clear hVB
   go_wp2_with fail
   exact (uh HQ) _ ⟨(by (repeat (with_reducible refine Fq.Kp.set ?_ (by decide) _)); with_reducible exact Fq.Kp.refl _ _), Zag _ (by simp [hT]) _⟩
 have hlt : (k : Int) < (q.args.len : Int) := of_decide_eq_true hVB
 clear hVB
 go_wp2_with fail
 exact (uh HQ) _ ⟨(by (repeat (with_reducible refine Fq.Kp.set ?_ (by decide) _)); with_reducible exact Fq.Kp.refl _ _), Zag _ (by simp [hT]) _⟩
theorem ac_r17 {k : Nat} (hT : T.size = 147) (s12 : T[12]? = some (.int .i64 (k : Nat))) (htl : k < 35184372088832)
  (hQ : ∀ T', (Fq.Kp 12 T T' ∧ T'[12]? = some (.int .i64 ((k + 1 : Nat) : Int))) → Q .normal ⟨T', []⟩ (w)) : (ZaI Tryz.f31 17).wp Tryz.prog Q ⟨T, []⟩ w := by
 have a12 := fun h => Fq.el s12 h
 have d12 := ZaG s12
 have hu : undef = Value.tuple #[] := rfl
 have HQ := Hd hQ
 clear hQ
 conv => arg 2; whnf
 have hc : ((k + 1 : Nat) : Int) = (k : Int) + 1 := by omega
 have hw0 : IntKind.i64.wrap ((k : Int) + 1) = (k : Int) + 1 := by rw [IntKind.wrap_i64]; omega
 rw [hc] at HQ
 go_wp2_with fail
 exact (uh HQ) _ ⟨(by (repeat (with_reducible refine Fq.Kp.set ?_ (by decide) _)); with_reducible exact Fq.Kp.refl _ _), Zag _ (by simp [hT]) _⟩
theorem ac_r18 {k ba oa : Nat} {e : Tk.E} {bb : Bool} {c5 c6 c7 c8 c9 c10 c11 : Bool} (hT : T.size = 147) (s4 : T[4]? = some (.pointer (some ⟨bx, 0, none⟩))) (s5 : T[5]? = some (.bool c5)) (s6 : T[6]? = some (.bool c6)) (s7 : T[7]? = some (.bool c7)) (s8 : T[8]? = some (.bool c8)) (s9 : T[9]? = some (.bool c9)) (s10 : T[10]? = some (.bool c10)) (s11 : T[11]? = some (.bool c11)) (s12 : T[12]? = some (.int .i64 (k : Nat))) (x14 : w.cell? ⟨bx, 14, none⟩ = some (.slice (some ⟨ba, oa, none⟩) q.args.len q.args.cap)) (hk : k < q.args.len) (y0 : w.cell? ⟨ba, oa + k * 5, none⟩ = some (.int .i64 e.k)) (y1 : w.cell? ⟨ba, oa + k * 5 + 1, none⟩ = some (.int .i64 e.a)) (y2 : w.cell? ⟨ba, oa + k * 5 + 2, none⟩ = some (.int .i64 e.n)) (y3 : w.cell? ⟨ba, oa + k * 5 + 3, none⟩ = some (.string e.nm)) (y4 : w.cell? ⟨ba, oa + k * 5 + 4, none⟩ = some (.slice e.args.ad e.args.len e.args.cap)) (hc : Calls Tryz.prog 28 #[.agg #[.int .i64 e.k, .int .i64 e.a, .int .i64 e.n, .string e.nm, .slice e.args.ad e.args.len e.args.cap]] w fun r w' => r = .returned (.bool bb) ∧ Below w.heap.size w w')
  (hQ : ∀ T' w', (Fq.Kp 5 T T' ∧ T'[5]? = some (.bool c5) ∧ T'[6]? = some (.bool c6) ∧ T'[7]? = some (.bool c7) ∧ T'[8]? = some (.bool c8) ∧ T'[9]? = some (.bool c9) ∧ T'[10]? = some (.bool c10) ∧ T'[11]? = some (.bool (c11 && bb)) ∧ T'[12]? = some (.int .i64 (k : Nat)) ∧ Below w.heap.size w w') → Q .normal ⟨T', []⟩ w') : (ZaI Tryz.f31 18).wp Tryz.prog Q ⟨T, []⟩ w := by
 have a4 := fun h => Fq.el s4 h
 have d4 := ZaG s4
 have a5 := fun h => Fq.el s5 h
 have d5 := ZaG s5
 have a6 := fun h => Fq.el s6 h
 have d6 := ZaG s6
 have a7 := fun h => Fq.el s7 h
 have d7 := ZaG s7
 have a8 := fun h => Fq.el s8 h
 have d8 := ZaG s8
 have a9 := fun h => Fq.el s9 h
 have d9 := ZaG s9
 have a10 := fun h => Fq.el s10 h
 have d10 := ZaG s10
 have a11 := fun h => Fq.el s11 h
 have d11 := ZaG s11
 have a12 := fun h => Fq.el s12 h
 have d12 := ZaG s12
 have hu : undef = Value.tuple #[] := rfl
 have HQ := Hd hQ
 clear hQ
 conv => arg 2; whnf
 have HC := Hd hc
 clear hc
 have hk0 : (0 : Int) ≤ (k : Int) := by omega
 have hk1 : (k : Int) < (q.args.len : Int) := by omega
 cases c11
 · have HB := Hd (Below.refl w.heap.size w)
   go_wp2_with fail
   exact (uh HQ) _ _ ⟨(by (repeat (with_reducible refine Fq.Kp.set ?_ (by decide) _)); with_reducible exact Fq.Kp.refl _ _), (by (repeat (with_reducible refine (Fq.set_ne _ (by decide) _).trans ?_)); exact s5), (by (repeat (with_reducible refine (Fq.set_ne _ (by decide) _).trans ?_)); exact s6), (by (repeat (with_reducible refine (Fq.set_ne _ (by decide) _).trans ?_)); exact s7), (by (repeat (with_reducible refine (Fq.set_ne _ (by decide) _).trans ?_)); exact s8), (by (repeat (with_reducible refine (Fq.set_ne _ (by decide) _).trans ?_)); exact s9), (by (repeat (with_reducible refine (Fq.set_ne _ (by decide) _).trans ?_)); exact s10), (Zag _ (by simp [hT]) _).trans (rfl), (by (repeat (with_reducible refine (Fq.set_ne _ (by decide) _).trans ?_)); exact s12), uh HB⟩
 go_wp2_with (with_reducible refine (Calls.mono (uh HC) ?_); rintro r w2 ⟨rfl, hb2⟩; have HB := Hd hb2; clear hb2)
 exact (uh HQ) _ _ ⟨(by (repeat (with_reducible refine Fq.Kp.set ?_ (by decide) _)); with_reducible exact Fq.Kp.refl _ _), (by (repeat (with_reducible refine (Fq.set_ne _ (by decide) _).trans ?_)); exact s5), (by (repeat (with_reducible refine (Fq.set_ne _ (by decide) _).trans ?_)); exact s6), (by (repeat (with_reducible refine (Fq.set_ne _ (by decide) _).trans ?_)); exact s7), (by (repeat (with_reducible refine (Fq.set_ne _ (by decide) _).trans ?_)); exact s8), (by (repeat (with_reducible refine (Fq.set_ne _ (by decide) _).trans ?_)); exact s9), (by (repeat (with_reducible refine (Fq.set_ne _ (by decide) _).trans ?_)); exact s10), (Zag _ (by simp [hT]) _).trans (rfl), (by (repeat (with_reducible refine (Fq.set_ne _ (by decide) _).trans ?_)); exact s12), uh HB⟩
theorem ac_r22 {bb : Bool} {c5 c6 c7 c9 c10 c11 : Bool} (hT : T.size = 147) (s4 : T[4]? = some (.pointer (some ⟨bx, 0, none⟩))) (s5 : T[5]? = some (.bool c5)) (s6 : T[6]? = some (.bool c6)) (s7 : T[7]? = some (.bool c7)) (s9 : T[9]? = some (.bool c9)) (s10 : T[10]? = some (.bool c10)) (s11 : T[11]? = some (.bool c11)) (x9 : w.cell? ⟨bx, 9, none⟩ = some (.int .i64 q.ex.k)) (x10 : w.cell? ⟨bx, 10, none⟩ = some (.int .i64 q.ex.a)) (x11 : w.cell? ⟨bx, 11, none⟩ = some (.int .i64 q.ex.n)) (x12 : w.cell? ⟨bx, 12, none⟩ = some (.string q.ex.nm)) (x13 : w.cell? ⟨bx, 13, none⟩ = some (.slice q.ex.args.ad q.ex.args.len q.ex.args.cap)) (hc : Calls Tryz.prog 28 #[.agg #[.int .i64 q.ex.k, .int .i64 q.ex.a, .int .i64 q.ex.n, .string q.ex.nm, .slice q.ex.args.ad q.ex.args.len q.ex.args.cap]] w fun r w' => r = .returned (.bool bb) ∧ Below w.heap.size w w')
  (hQ : ∀ T' w', (Fq.Kp 5 T T' ∧ T'[5]? = some (.bool c5) ∧ T'[6]? = some (.bool c6) ∧ T'[7]? = some (.bool c7) ∧ T'[8]? = some (.bool bb) ∧ T'[9]? = some (.bool c9) ∧ T'[10]? = some (.bool c10) ∧ T'[11]? = some (.bool c11) ∧ Below w.heap.size w w') → Q .normal ⟨T', []⟩ w') : (ZaI Tryz.f31 22).wp Tryz.prog Q ⟨T, []⟩ w := by
 have a4 := fun h => Fq.el s4 h
 have d4 := ZaG s4
 have a5 := fun h => Fq.el s5 h
 have d5 := ZaG s5
 have a6 := fun h => Fq.el s6 h
 have d6 := ZaG s6
 have a7 := fun h => Fq.el s7 h
 have d7 := ZaG s7
 have a9 := fun h => Fq.el s9 h
 have d9 := ZaG s9
 have a10 := fun h => Fq.el s10 h
 have d10 := ZaG s10
 have a11 := fun h => Fq.el s11 h
 have d11 := ZaG s11
 have hu : undef = Value.tuple #[] := rfl
 have HQ := Hd hQ
 clear hQ
 conv => arg 2; whnf
 have HC := Hd hc
 clear hc
 go_wp2_with (with_reducible refine (Calls.mono (uh HC) ?_); rintro r w2 ⟨rfl, hb2⟩; have HB := Hd hb2; clear hb2)
 exact (uh HQ) _ _ ⟨(by (repeat (with_reducible refine Fq.Kp.set ?_ (by decide) _)); with_reducible exact Fq.Kp.refl _ _), (by (repeat (with_reducible refine (Fq.set_ne _ (by decide) _).trans ?_)); exact s5), (by (repeat (with_reducible refine (Fq.set_ne _ (by decide) _).trans ?_)); exact s6), (by (repeat (with_reducible refine (Fq.set_ne _ (by decide) _).trans ?_)); exact s7), Zag _ (by simp [hT]) _, (by (repeat (with_reducible refine (Fq.set_ne _ (by decide) _).trans ?_)); exact s9), (by (repeat (with_reducible refine (Fq.set_ne _ (by decide) _).trans ?_)); exact s10), (by (repeat (with_reducible refine (Fq.set_ne _ (by decide) _).trans ?_)); exact s11), uh HB⟩
theorem ac_r27 {c5 c6 c7 c8 c9 c10 c11 : Bool} (hT : T.size = 147) (s5 : T[5]? = some (.bool c5)) (s6 : T[6]? = some (.bool c6)) (s7 : T[7]? = some (.bool c7)) (s8 : T[8]? = some (.bool c8)) (s9 : T[9]? = some (.bool c9)) (s10 : T[10]? = some (.bool c10)) (s11 : T[11]? = some (.bool c11))
  (hQ : ∀ T', (Fq.Kp 12 T T' ∧ T'[146]? = some (.bool (!(c5 && c6 && c7 && c8 && c9 && c10 && c11)))) → Q .normal ⟨T', []⟩ (w)) : (ZaI Tryz.f31 27).wp Tryz.prog Q ⟨T, []⟩ w := by
 have a5 := fun h => Fq.el s5 h
 have d5 := ZaG s5
 have a6 := fun h => Fq.el s6 h
 have d6 := ZaG s6
 have a7 := fun h => Fq.el s7 h
 have d7 := ZaG s7
 have a8 := fun h => Fq.el s8 h
 have d8 := ZaG s8
 have a9 := fun h => Fq.el s9 h
 have d9 := ZaG s9
 have a10 := fun h => Fq.el s10 h
 have d10 := ZaG s10
 have a11 := fun h => Fq.el s11 h
 have d11 := ZaG s11
 have hu : undef = Value.tuple #[] := rfl
 have HQ := Hd hQ
 clear hQ
 conv => arg 2; whnf
 cases c5
 · go_wp2_with fail
   exact (uh HQ) _ ⟨(by (repeat (with_reducible refine Fq.Kp.set ?_ (by decide) _)); with_reducible exact Fq.Kp.refl _ _), (Zag _ (by simp [hT]) _).trans (rfl)⟩
 cases c6
 · go_wp2_with fail
   exact (uh HQ) _ ⟨(by (repeat (with_reducible refine Fq.Kp.set ?_ (by decide) _)); with_reducible exact Fq.Kp.refl _ _), (Zag _ (by simp [hT]) _).trans (rfl)⟩
 cases c7
 · go_wp2_with fail
   exact (uh HQ) _ ⟨(by (repeat (with_reducible refine Fq.Kp.set ?_ (by decide) _)); with_reducible exact Fq.Kp.refl _ _), (Zag _ (by simp [hT]) _).trans (rfl)⟩
 cases c8
 · go_wp2_with fail
   exact (uh HQ) _ ⟨(by (repeat (with_reducible refine Fq.Kp.set ?_ (by decide) _)); with_reducible exact Fq.Kp.refl _ _), (Zag _ (by simp [hT]) _).trans (rfl)⟩
 cases c9
 · go_wp2_with fail
   exact (uh HQ) _ ⟨(by (repeat (with_reducible refine Fq.Kp.set ?_ (by decide) _)); with_reducible exact Fq.Kp.refl _ _), (Zag _ (by simp [hT]) _).trans (rfl)⟩
 cases c10
 · go_wp2_with fail
   exact (uh HQ) _ ⟨(by (repeat (with_reducible refine Fq.Kp.set ?_ (by decide) _)); with_reducible exact Fq.Kp.refl _ _), (Zag _ (by simp [hT]) _).trans (rfl)⟩
 cases c11
 · go_wp2_with fail
   exact (uh HQ) _ ⟨(by (repeat (with_reducible refine Fq.Kp.set ?_ (by decide) _)); with_reducible exact Fq.Kp.refl _ _), (Zag _ (by simp [hT]) _).trans (rfl)⟩
 go_wp2_with fail
 exact (uh HQ) _ ⟨(by (repeat (with_reducible refine Fq.Kp.set ?_ (by decide) _)); with_reducible exact Fq.Kp.refl _ _), (Zag _ (by simp [hT]) _).trans (rfl)⟩
end
section
variable {T : Array Value} {w : World} {Q : Exit → Act → World → Prop} {q : Tk.C} {s : Tk.Sl} {bx i : Nat}
theorem ac_r5 {b7 b8 : Bool} (hT : T.size = 147) (s4 : T[4]? = some (.pointer (some ⟨bx, 0, none⟩))) (hbv : Tk.BV w bx q.cells) (hbx : bx < w.heap.size) (hc0 : ∀ V, Below w.heap.size w V → Calls Tryz.prog 29 #[.agg #[.int .i64 q.ix.k, .int .i64 q.ix.a, .int .i64 q.ix.n, .string q.ix.nm, .slice q.ix.args.ad q.ix.args.len q.ix.args.cap]] V fun r w' => r = .returned (.bool b7) ∧ Below V.heap.size V w') (hc1 : ∀ V, Below w.heap.size w V → Calls Tryz.prog 29 #[.agg #[.int .i64 q.ex.k, .int .i64 q.ex.a, .int .i64 q.ex.n, .string q.ex.nm, .slice q.ex.args.ad q.ex.args.len q.ex.args.cap]] V fun r w' => r = .returned (.bool b8) ∧ Below V.heap.size V w')
  (hQ : ∀ T' w', (Fq.Kp 5 T T' ∧ T'[5]? = some (.bool q.nm.toList.isEmpty) ∧ T'[6]? = some (.bool q.ot.toList.isEmpty) ∧ T'[7]? = some (.bool b7) ∧ T'[8]? = some (.bool b8) ∧ Below w.heap.size w w') → Q .normal ⟨T', []⟩ w') : (ZaI Tryz.f31 5).wp Tryz.prog Q ⟨T, []⟩ w := by
 have HQ := Hd hQ
 clear hQ
 conv => arg 2; whnf
 refine Zjt (fun T' w' => Fq.Kp 5 T T' ∧ T'[5]? = some (.bool q.nm.toList.isEmpty) ∧ T'[6]? = some (.bool q.ot.toList.isEmpty) ∧ T'[7]? = some (.bool b7) ∧ T'[8]? = some (.bool b8) ∧ Below w.heap.size w w') (fun T' w' h => (uh HQ) T' w' h) ?_
 obtain ⟨t, ht⟩ : ∃ t : Nat → Value, t = fun i => T.getD i (.tuple #[]) := ⟨_, rfl⟩
 have hTl : T = #[t 0, t 1, t 2, t 3, t 4, t 5, t 6, t 7, t 8, t 9, t 10, t 11, t 12, t 13, t 14, t 15, t 16, t 17, t 18, t 19, t 20, t 21, t 22, t 23, t 24, t 25, t 26, t 27, t 28, t 29, t 30, t 31, t 32, t 33, t 34, t 35, t 36, t 37, t 38, t 39, t 40, t 41, t 42, t 43, t 44, t 45, t 46, t 47, t 48, t 49, t 50, t 51, t 52, t 53, t 54, t 55, t 56, t 57, t 58, t 59, t 60, t 61, t 62, t 63, t 64, t 65, t 66, t 67, t 68, t 69, t 70, t 71, t 72, t 73, t 74, t 75, t 76, t 77, t 78, t 79, t 80, t 81, t 82, t 83, t 84, t 85, t 86, t 87, t 88, t 89, t 90, t 91, t 92, t 93, t 94, t 95, t 96, t 97, t 98, t 99, t 100, t 101, t 102, t 103, t 104, t 105, t 106, t 107, t 108, t 109, t 110, t 111, t 112, t 113, t 114, t 115, t 116, t 117, t 118, t 119, t 120, t 121, t 122, t 123, t 124, t 125, t 126, t 127, t 128, t 129, t 130, t 131, t 132, t 133, t 134, t 135, t 136, t 137, t 138, t 139, t 140, t 141, t 142, t 143, t 144, t 145, t 146] := by rw [ht]; exact Zhu hT
 rw [(congrFun ht 4).trans (ZaG s4)] at hTl
 clear ht hT s4
 refine Zlx hTl ?_
 have HTL := Hd hTl
 clear hTl
 have HKM := Hd (show ∀ V : World, Below w.heap.size w V → (Below w.heap.size w V ∧ V.cell? ⟨bx, 2, none⟩ = some (.string q.nm) ∧ V.cell? ⟨bx, 3, none⟩ = some (.string q.ot) ∧ V.cell? ⟨bx, 4, none⟩ = some (.int .i64 q.ix.k) ∧ V.cell? ⟨bx, 5, none⟩ = some (.int .i64 q.ix.a) ∧ V.cell? ⟨bx, 6, none⟩ = some (.int .i64 q.ix.n) ∧ V.cell? ⟨bx, 7, none⟩ = some (.string q.ix.nm) ∧ V.cell? ⟨bx, 8, none⟩ = some (.slice q.ix.args.ad q.ix.args.len q.ix.args.cap) ∧ V.cell? ⟨bx, 9, none⟩ = some (.int .i64 q.ex.k) ∧ V.cell? ⟨bx, 10, none⟩ = some (.int .i64 q.ex.a) ∧ V.cell? ⟨bx, 11, none⟩ = some (.int .i64 q.ex.n) ∧ V.cell? ⟨bx, 12, none⟩ = some (.string q.ex.nm) ∧ V.cell? ⟨bx, 13, none⟩ = some (.slice q.ex.args.ad q.ex.args.len q.ex.args.cap)) from fun V hV => ⟨hV, (hbv.below hV hbx) 2 _ rfl, (hbv.below hV hbx) 3 _ rfl, (hbv.below hV hbx) 4 _ rfl, (hbv.below hV hbx) 5 _ rfl, (hbv.below hV hbx) 6 _ rfl, (hbv.below hV hbx) 7 _ rfl, (hbv.below hV hbx) 8 _ rfl, (hbv.below hV hbx) 9 _ rfl, (hbv.below hV hbx) 10 _ rfl, (hbv.below hV hbx) 11 _ rfl, (hbv.below hV hbx) 12 _ rfl, (hbv.below hV hbx) 13 _ rfl⟩)
 have HC0 := Hd hc0
 have HC1 := Hd hc1
 clear hbv hbx hc0 hc1
 go_region_held3 (fun V => Below w.heap.size w V ∧ V.cell? ⟨bx, 2, none⟩ = some (.string q.nm) ∧ V.cell? ⟨bx, 3, none⟩ = some (.string q.ot) ∧ V.cell? ⟨bx, 4, none⟩ = some (.int .i64 q.ix.k) ∧ V.cell? ⟨bx, 5, none⟩ = some (.int .i64 q.ix.a) ∧ V.cell? ⟨bx, 6, none⟩ = some (.int .i64 q.ix.n) ∧ V.cell? ⟨bx, 7, none⟩ = some (.string q.ix.nm) ∧ V.cell? ⟨bx, 8, none⟩ = some (.slice q.ix.args.ad q.ix.args.len q.ix.args.cap) ∧ V.cell? ⟨bx, 9, none⟩ = some (.int .i64 q.ex.k) ∧ V.cell? ⟨bx, 10, none⟩ = some (.int .i64 q.ex.a) ∧ V.cell? ⟨bx, 11, none⟩ = some (.int .i64 q.ex.n) ∧ V.cell? ⟨bx, 12, none⟩ = some (.string q.ex.nm) ∧ V.cell? ⟨bx, 13, none⟩ = some (.slice q.ex.args.ad q.ex.args.len q.ex.args.cap))
  (first | assumption | exact (uh HKM) _ (Zr.drew) | exact (uh HKM) _ (Below.trans (And.left (by assumption)) ((uh HB5).mono (Below.size (And.left (by assumption))))))
  (first
   | (go_at_call_of 29 (Value.agg #[.int .i64 q.ix.k, .int .i64 q.ix.a, .int .i64 q.ix.n, .string q.ix.nm, .slice q.ix.args.ad q.ix.args.len q.ix.args.cap]); refine ((uh HC0) _ ?_).mono ?_; exact And.left (by assumption); rintro r w5 ⟨rfl, hb5⟩; have HB5 := Hd hb5; clear hb5)
   | (go_at_call_of 29 (Value.agg #[.int .i64 q.ex.k, .int .i64 q.ex.a, .int .i64 q.ex.n, .string q.ex.nm, .slice q.ex.args.ad q.ex.args.len q.ex.args.cap]); refine ((uh HC1) _ ?_).mono ?_; exact And.left (by assumption); rintro r w5 ⟨rfl, hb5⟩; have HB5 := Hd hb5; clear hb5))
 all_goals exact ⟨rfl, ⟨by rw [uh HTL]; rfl, fun k hk => by rw [uh HTL]; rcases (show k = 0 ∨ k = 1 ∨ k = 2 ∨ k = 3 ∨ k = 4 by omega) with rfl | rfl | rfl | rfl | rfl <;> rfl⟩, (by first | rfl | simp), (by first | rfl | simp), (by first | rfl | simp), (by first | rfl | simp), (And.left (by assumption))⟩
theorem ac_r6 {c5 c6 c7 c8 : Bool} (hT : T.size = 147) (s4 : T[4]? = some (.pointer (some ⟨bx, 0, none⟩))) (s5 : T[5]? = some (.bool c5)) (s6 : T[6]? = some (.bool c6)) (s7 : T[7]? = some (.bool c7)) (s8 : T[8]? = some (.bool c8)) (hbv : Tk.BV w bx q.cells) (hbx : bx < w.heap.size)
  (hQ : ∀ T' w', (Fq.Kp 5 T T' ∧ T'[5]? = some (.bool c5) ∧ T'[6]? = some (.bool c6) ∧ T'[7]? = some (.bool c7) ∧ T'[8]? = some (.bool c8) ∧ T'[9]? = some (.bool ((q.th.len : Int) == 0)) ∧ T'[10]? = some (.bool ((q.el.len : Int) == 0)) ∧ T'[11]? = some (.bool ((q.args.len : Int) == 0)) ∧ Below w.heap.size w w') → Q .normal ⟨T', []⟩ w') : (ZaI Tryz.f31 6).wp Tryz.prog Q ⟨T, []⟩ w := by
 have HQ := Hd hQ
 clear hQ
 conv => arg 2; whnf
 refine Zjt (fun T' w' => Fq.Kp 5 T T' ∧ T'[5]? = some (.bool c5) ∧ T'[6]? = some (.bool c6) ∧ T'[7]? = some (.bool c7) ∧ T'[8]? = some (.bool c8) ∧ T'[9]? = some (.bool ((q.th.len : Int) == 0)) ∧ T'[10]? = some (.bool ((q.el.len : Int) == 0)) ∧ T'[11]? = some (.bool ((q.args.len : Int) == 0)) ∧ Below w.heap.size w w') (fun T' w' h => (uh HQ) T' w' h) ?_
 obtain ⟨t, ht⟩ : ∃ t : Nat → Value, t = fun i => T.getD i (.tuple #[]) := ⟨_, rfl⟩
 have hTl : T = #[t 0, t 1, t 2, t 3, t 4, t 5, t 6, t 7, t 8, t 9, t 10, t 11, t 12, t 13, t 14, t 15, t 16, t 17, t 18, t 19, t 20, t 21, t 22, t 23, t 24, t 25, t 26, t 27, t 28, t 29, t 30, t 31, t 32, t 33, t 34, t 35, t 36, t 37, t 38, t 39, t 40, t 41, t 42, t 43, t 44, t 45, t 46, t 47, t 48, t 49, t 50, t 51, t 52, t 53, t 54, t 55, t 56, t 57, t 58, t 59, t 60, t 61, t 62, t 63, t 64, t 65, t 66, t 67, t 68, t 69, t 70, t 71, t 72, t 73, t 74, t 75, t 76, t 77, t 78, t 79, t 80, t 81, t 82, t 83, t 84, t 85, t 86, t 87, t 88, t 89, t 90, t 91, t 92, t 93, t 94, t 95, t 96, t 97, t 98, t 99, t 100, t 101, t 102, t 103, t 104, t 105, t 106, t 107, t 108, t 109, t 110, t 111, t 112, t 113, t 114, t 115, t 116, t 117, t 118, t 119, t 120, t 121, t 122, t 123, t 124, t 125, t 126, t 127, t 128, t 129, t 130, t 131, t 132, t 133, t 134, t 135, t 136, t 137, t 138, t 139, t 140, t 141, t 142, t 143, t 144, t 145, t 146] := by rw [ht]; exact Zhu hT
 rw [(congrFun ht 4).trans (ZaG s4), (congrFun ht 5).trans (ZaG s5), (congrFun ht 6).trans (ZaG s6), (congrFun ht 7).trans (ZaG s7), (congrFun ht 8).trans (ZaG s8)] at hTl
 clear ht hT s4 s5 s6 s7 s8
 refine Zlx hTl ?_
 have HTL := Hd hTl
 clear hTl
 have HKM := Hd (show ∀ V : World, Below w.heap.size w V → (Below w.heap.size w V ∧ V.cell? ⟨bx, 14, none⟩ = some (.slice q.args.ad q.args.len q.args.cap) ∧ V.cell? ⟨bx, 15, none⟩ = some (.slice q.th.ad q.th.len q.th.cap) ∧ V.cell? ⟨bx, 16, none⟩ = some (.slice q.el.ad q.el.len q.el.cap)) from fun V hV => ⟨hV, (hbv.below hV hbx) 14 _ rfl, (hbv.below hV hbx) 15 _ rfl, (hbv.below hV hbx) 16 _ rfl⟩)
 clear hbv hbx
 go_region_held3 (fun V => Below w.heap.size w V ∧ V.cell? ⟨bx, 14, none⟩ = some (.slice q.args.ad q.args.len q.args.cap) ∧ V.cell? ⟨bx, 15, none⟩ = some (.slice q.th.ad q.th.len q.th.cap) ∧ V.cell? ⟨bx, 16, none⟩ = some (.slice q.el.ad q.el.len q.el.cap))
  (first | assumption | exact (uh HKM) _ (Zr.drew))
  (fail)
 all_goals exact ⟨rfl, ⟨by rw [uh HTL]; rfl, fun k hk => by rw [uh HTL]; rcases (show k = 0 ∨ k = 1 ∨ k = 2 ∨ k = 3 ∨ k = 4 by omega) with rfl | rfl | rfl | rfl | rfl <;> rfl⟩, (by first | rfl | simp), (by first | rfl | simp), (by first | rfl | simp), (by first | rfl | simp), (by first | rfl | simp), (by first | rfl | simp), (by first | rfl | simp), (And.left (by assumption))⟩
theorem ac_r14 {b5 b6 : Bool} {c7 c8 c9 c10 : Bool} (hT : T.size = 147) (s4 : T[4]? = some (.pointer (some ⟨bx, 0, none⟩))) (s7 : T[7]? = some (.bool c7)) (s8 : T[8]? = some (.bool c8)) (s9 : T[9]? = some (.bool c9)) (s10 : T[10]? = some (.bool c10)) (hbv : Tk.BV w bx q.cells) (hbx : bx < w.heap.size) (hc0 : ∀ V, Below w.heap.size w V → Calls Tryz.prog 27 #[.string q.nm] V fun r w' => r = .returned (.bool b5) ∧ Below V.heap.size V w') (hc1 : ∀ V, Below w.heap.size w V → Calls Tryz.prog 27 #[.string q.ot] V fun r w' => r = .returned (.bool b6) ∧ Below V.heap.size V w')
  (hQ : ∀ T' w', (Fq.Kp 5 T T' ∧ T'[5]? = some (.bool b5) ∧ T'[6]? = some (.bool b6) ∧ T'[7]? = some (.bool c7) ∧ T'[8]? = some (.bool c8) ∧ T'[9]? = some (.bool c9) ∧ T'[10]? = some (.bool c10) ∧ T'[11]? = some (.bool true) ∧ Below w.heap.size w w') → Q .normal ⟨T', []⟩ w') : (ZaI Tryz.f31 14).wp Tryz.prog Q ⟨T, []⟩ w := by
 have HQ := Hd hQ
 clear hQ
 conv => arg 2; whnf
 refine Zjt (fun T' w' => Fq.Kp 5 T T' ∧ T'[5]? = some (.bool b5) ∧ T'[6]? = some (.bool b6) ∧ T'[7]? = some (.bool c7) ∧ T'[8]? = some (.bool c8) ∧ T'[9]? = some (.bool c9) ∧ T'[10]? = some (.bool c10) ∧ T'[11]? = some (.bool true) ∧ Below w.heap.size w w') (fun T' w' h => (uh HQ) T' w' h) ?_
 obtain ⟨t, ht⟩ : ∃ t : Nat → Value, t = fun i => T.getD i (.tuple #[]) := ⟨_, rfl⟩
 have hTl : T = #[t 0, t 1, t 2, t 3, t 4, t 5, t 6, t 7, t 8, t 9, t 10, t 11, t 12, t 13, t 14, t 15, t 16, t 17, t 18, t 19, t 20, t 21, t 22, t 23, t 24, t 25, t 26, t 27, t 28, t 29, t 30, t 31, t 32, t 33, t 34, t 35, t 36, t 37, t 38, t 39, t 40, t 41, t 42, t 43, t 44, t 45, t 46, t 47, t 48, t 49, t 50, t 51, t 52, t 53, t 54, t 55, t 56, t 57, t 58, t 59, t 60, t 61, t 62, t 63, t 64, t 65, t 66, t 67, t 68, t 69, t 70, t 71, t 72, t 73, t 74, t 75, t 76, t 77, t 78, t 79, t 80, t 81, t 82, t 83, t 84, t 85, t 86, t 87, t 88, t 89, t 90, t 91, t 92, t 93, t 94, t 95, t 96, t 97, t 98, t 99, t 100, t 101, t 102, t 103, t 104, t 105, t 106, t 107, t 108, t 109, t 110, t 111, t 112, t 113, t 114, t 115, t 116, t 117, t 118, t 119, t 120, t 121, t 122, t 123, t 124, t 125, t 126, t 127, t 128, t 129, t 130, t 131, t 132, t 133, t 134, t 135, t 136, t 137, t 138, t 139, t 140, t 141, t 142, t 143, t 144, t 145, t 146] := by rw [ht]; exact Zhu hT
 rw [(congrFun ht 4).trans (ZaG s4), (congrFun ht 7).trans (ZaG s7), (congrFun ht 8).trans (ZaG s8), (congrFun ht 9).trans (ZaG s9), (congrFun ht 10).trans (ZaG s10)] at hTl
 clear ht hT s4 s7 s8 s9 s10
 refine Zlx hTl ?_
 have HTL := Hd hTl
 clear hTl
 have HKM := Hd (show ∀ V : World, Below w.heap.size w V → (Below w.heap.size w V ∧ V.cell? ⟨bx, 2, none⟩ = some (.string q.nm) ∧ V.cell? ⟨bx, 3, none⟩ = some (.string q.ot)) from fun V hV => ⟨hV, (hbv.below hV hbx) 2 _ rfl, (hbv.below hV hbx) 3 _ rfl⟩)
 have HC0 := Hd hc0
 have HC1 := Hd hc1
 clear hbv hbx hc0 hc1
 go_region_held3 (fun V => Below w.heap.size w V ∧ V.cell? ⟨bx, 2, none⟩ = some (.string q.nm) ∧ V.cell? ⟨bx, 3, none⟩ = some (.string q.ot))
  (first | assumption | exact (uh HKM) _ (Zr.drew) | exact (uh HKM) _ (Below.trans (And.left (by assumption)) ((uh HB5).mono (Below.size (And.left (by assumption))))))
  (first
   | (go_at_call_of 27 (Value.string q.nm); refine ((uh HC0) _ ?_).mono ?_; exact And.left (by assumption); rintro r w5 ⟨rfl, hb5⟩; have HB5 := Hd hb5; clear hb5)
   | (go_at_call_of 27 (Value.string q.ot); refine ((uh HC1) _ ?_).mono ?_; exact And.left (by assumption); rintro r w5 ⟨rfl, hb5⟩; have HB5 := Hd hb5; clear hb5))
 all_goals exact ⟨rfl, ⟨by rw [uh HTL]; rfl, fun k hk => by rw [uh HTL]; rcases (show k = 0 ∨ k = 1 ∨ k = 2 ∨ k = 3 ∨ k = 4 by omega) with rfl | rfl | rfl | rfl | rfl <;> rfl⟩, (by first | rfl | simp), (by first | rfl | simp), (by first | rfl | simp), (by first | rfl | simp), (by first | rfl | simp), (by first | rfl | simp), (by first | rfl | simp), (And.left (by assumption))⟩
end
theorem ZlG {m n : Nat} (y : Zap m (n + 1)) (q : Tk.C) (hn : q.nm = y.1.2.2.1) (ho : q.ot = y.1.2.2.2) (ht : q.th.len = y.2.2.1.length) (he : q.el.len = y.2.2.2.length) (ha : q.args.len = y.2.1.2.2.length) (f1 f2 f3 f4 f5 f6 f7 : Bool) (hf : ZaS y.1.1 = some (f1, f2, f3, f4, f5, f6, f7)) :
  Zaf (n + 1) y = ((if f1 = true then Zam q.nm else q.nm.toList.isEmpty) && (if f2 = true then Zam q.ot else q.ot.toList.isEmpty) && (if f3 = true then Zac m y.2.1.1 else Zb3 m y.2.1.1) && (if f4 = true then Zac m y.2.1.2.1 else Zb3 m y.2.1.2.1) &&
   (if f6 = true then y.2.2.1.all (Zaf n) else ((q.th.len : Int) == 0)) && (if f7 = true then y.2.2.2.all (Zaf n) else ((q.el.len : Int) == 0)) && (if f5 = true then y.2.1.2.2.all (Zac m) else ((q.args.len : Int) == 0))) := by
 have e0 : Zaf (n + 1) y = (Zar y.1.2.2.1 f1 && Zar y.1.2.2.2 f2 && Zan m y.2.1.1 f3 && Zan m y.2.1.2.1 f4 && (y.2.1.2.2.all (Zac m) && (f5 || decide (y.2.1.2.2.length = 0))) &&
   (y.2.2.1.all (Zaf n) && (f6 || decide (y.2.2.1.length = 0))) && (y.2.2.2.all (Zaf n) && (f7 || decide (y.2.2.2.length = 0)))) := by
  show (match ZaS y.1.1 with | none => false | some (f1, f2, f3, f4, f5, f6, f7) => _) = _
  rw [hf]
 have d : ∀ {α : Type} (l : List α) (p : α → Bool) (f : Bool) (k : Nat), k = l.length → (l.all p && (f || decide (l.length = 0))) = (if f = true then l.all p else ((k : Int) == 0)) := by
  intro α l p f k hk
  cases f
  · cases l with
    | nil => subst hk; rfl
    | cons x r =>
     have h1 : ((k : Int) == 0) = false := by rw [beq_eq_false_iff_ne]; rw [hk, Zo]; omega
     rw [if_neg (by decide), h1]
     simp
  simp
 rw [e0, ← hn, ← ho, d _ _ _ _ ht, d _ _ _ _ he, d _ _ _ _ ha]
 unfold Zar Zan
 generalize (if f5 = true then y.2.1.2.2.all (Zac m) else ((q.args.len : Int) == 0)) = x5
 cases x5 <;> simp
structure Ac.F (T : Array Value) (s : Tk.Sl) (i : Nat) : Prop where
 size : T.size = 147
 s0 : T[0]? = some (.slice s.ad s.len s.cap)
 s3 : T[3]? = some (.int .i64 (i : Nat))
structure Ac.M (T : Array Value) (s : Tk.Sl) (i bx : Nat) (c5 c6 c7 c8 c9 c10 c11 : Bool) : Prop where
 size : T.size = 147
 s0 : T[0]? = some (.slice s.ad s.len s.cap)
 s3 : T[3]? = some (.int .i64 (i : Nat))
 s4 : T[4]? = some (.pointer (some ⟨bx, 0, none⟩))
 s5 : T[5]? = some (.bool c5)
 s6 : T[6]? = some (.bool c6)
 s7 : T[7]? = some (.bool c7)
 s8 : T[8]? = some (.bool c8)
 s9 : T[9]? = some (.bool c9)
 s10 : T[10]? = some (.bool c10)
 s11 : T[11]? = some (.bool c11)
theorem Ac.M.kp {T T' : Array Value} {s : Tk.Sl} {i bx : Nat} {c5 c6 c7 c8 c9 c10 c11 : Bool} (h : Ac.M T s i bx c5 c6 c7 c8 c9 c10 c11) (k : Fq.Kp 12 T T') : Ac.M T' s i bx c5 c6 c7 c8 c9 c10 c11 :=
 ⟨k.size.trans h.size, (k.at_ 0 (by omega)).trans h.s0, (k.at_ 3 (by omega)).trans h.s3, (k.at_ 4 (by omega)).trans h.s4, (k.at_ 5 (by omega)).trans h.s5, (k.at_ 6 (by omega)).trans h.s6, (k.at_ 7 (by omega)).trans h.s7, (k.at_ 8 (by omega)).trans h.s8, (k.at_ 9 (by omega)).trans h.s9, (k.at_ 10 (by omega)).trans h.s10, (k.at_ 11 (by omega)).trans h.s11⟩
theorem Ac.M.put {T T' : Array Value} {s : Tk.Sl} {i bx : Nat} {c5 c6 c7 c8 c9 c10 c11 d5 d6 d7 d8 d9 d10 d11 : Bool} (h : Ac.M T s i bx c5 c6 c7 c8 c9 c10 c11) (k : Fq.Kp 5 T T') (g5 : T'[5]? = some (.bool d5)) (g6 : T'[6]? = some (.bool d6)) (g7 : T'[7]? = some (.bool d7)) (g8 : T'[8]? = some (.bool d8)) (g9 : T'[9]? = some (.bool d9)) (g10 : T'[10]? = some (.bool d10)) (g11 : T'[11]? = some (.bool d11)) : Ac.M T' s i bx d5 d6 d7 d8 d9 d10 d11 :=
 ⟨k.size.trans h.size, (k.at_ 0 (by omega)).trans h.s0, (k.at_ 3 (by omega)).trans h.s3, (k.at_ 4 (by omega)).trans h.s4, g5, g6, g7, g8, g9, g10, g11⟩
theorem Ac.all_take {α : Type} (p : α → Bool) (l : List α) (k : Nat) (x : α) (h : l[k]? = some x) : (l.take (k + 1)).all p = ((l.take k).all p && p x) := by
 have hlt := (List.getElem?_eq_some_iff.1 h).1
 rw [List.take_succ_eq_append_getElem hlt, (List.getElem?_eq_some_iff.1 h).2, List.all_append]
 simp
theorem ZkU (s : Tk.Sl) (htl : s.len ≤ 35184372088832) (w : World) (R : Bool) (S : Nat → Prop) (hS0 : S 0) (hend : S s.len → R = true)
  (hround : ∀ i, i < s.len → S i → ∀ (wr : World), Below w.heap.size w wr → ∀ (U : Array Value), Ac.F U s i → ∀ Q : Exit → Act → World → Prop, (∀ U' v, Ac.F U' s i → Below wr.heap.size wr v → S (i + 1) → Q .normal ⟨U', []⟩ v) → (∀ U' v, U'[2]? = some (.bool R) → Below wr.heap.size wr v → Q .ret ⟨U', []⟩ v) → (Fq.blk Tryz.f31 1).wp Tryz.prog Q ⟨U, []⟩ wr) :
  Calls Tryz.prog 31 #[.slice s.ad s.len s.cap] w fun r w' => r = .returned (.bool R) ∧ Below w.heap.size w w' := by
 refine calls_of_wp Tryz.func31 rfl ?_
 rw [show Tryz.f31.ntmps - (#[.slice s.ad s.len s.cap] : Array Value).size = 146 by rw [Tryz.ntmps31]; rfl]
 obtain ⟨T0, hT0⟩ : ∃ T0, T0 = #[.slice s.ad s.len s.cap] ++ Array.replicate 146 undef := ⟨_, rfl⟩
 have hT : T0.size = 147 := by rw [hT0, Array.size_append, Array.size_replicate]; rfl
 have s0 : T0[0]? = some (.slice s.ad s.len s.cap) := by rw [hT0]; simp
 rw [← hT0]
 clear hT0
 refine wp_seq ?_
 refine Fq.at_ Tryz.f31 0 (by kernel_rfl) ?_
 refine ac_r0 hT (fun U1 ⟨k1, h2⟩ => ?_)
 refine Fq.ok ?_
 refine wp_seq (wp_seq ?_)
 refine Fq.at_ Tryz.f31 1 (by kernel_rfl) ?_
 refine ac_r1 (k1.size.trans hT) (fun U2 ⟨k2, h3⟩ => ?_)
 have hF : Ac.F U2 s 0 := ⟨k2.size.trans (k1.size.trans hT), (k2.at_ 0 (by omega)).trans ((k1.at_ 0 (by omega)).trans s0), h3⟩
 refine Fq.ok ?_
 refine wp_block ?_
 refine wp_loop_ghost (fun d a v => ∃ (U' : Array Value) (i : Nat), a = ⟨U', []⟩ ∧ i ≤ s.len ∧ d = s.len - i ∧ Ac.F U' s i ∧ S i ∧ Below w.heap.size w v) s.len ⟨U2, 0, rfl, Nat.zero_le _, rfl, hF, hS0, Zr⟩ ?_
 rintro d a v ⟨Ua, i, rfl, hi, rfl, hFa, hSi, hbv⟩
 refine wp_seq (wp_seq ?_)
 refine Fq.at_ Tryz.f31 2 (by kernel_rfl) ?_
 refine ac_r2 hFa.size hFa.s0 hFa.s3 htl rfl (fun Ub ⟨kb, h16⟩ => ?_)
 have hFb : Ac.F Ub s i := ⟨kb.size.trans hFa.size, (kb.at_ 0 (by omega)).trans hFa.s0, (kb.at_ 3 (by omega)).trans hFa.s3⟩
 refine Fq.ok ?_
 refine Fq.cond 16 h16 (fun hb => ?_) (fun hb => ?_)
 · have hlt : i < s.len := by have := of_decide_eq_true hb; omega
   refine Fq.skip ?_
   refine Fq.ok ?_
   refine wp_seq (wp_block ?_)
   refine ZdM Tryz.f31 1 (by kernel_rfl) ?_
   refine hround i hlt hSi v hbv Ub hFb _ (fun Uc vc hFc hbc hSc => ?_) (fun Uc vc h8 hbc => ?_)
   · refine Zgv (Fq.ok ?_)
     refine Fq.at_ Tryz.f31 3 (by kernel_rfl) ?_
     refine ac_r3 hFc.size hFc.s3 (by omega) (fun Ud ⟨kd, hd3⟩ => ?_)
     exact ⟨s.len - (i + 1), by omega, Ud, i + 1, rfl, by omega, rfl, ⟨kd.size.trans hFc.size, (kd.at_ 0 (by omega)).trans hFc.s0, hd3⟩, hSc, hbv.trans (hbc.mono hbv.size)⟩
   repeat (first | with_reducible refine ZgG ?_ | with_reducible refine ZfA ?_)
   exact Fq.ret rfl h8 ⟨rfl, hbv.trans (hbc.mono hbv.size)⟩
 have hge : i = s.len := by have := of_decide_eq_false hb; omega
 subst hge
 refine wp_exit ?_
 refine ZdK (ZdK (Zh1 (Fq.ok ?_)))
 refine wp_seq ?_
 refine Fq.at_ Tryz.f31 29 (by kernel_rfl) ?_
 refine ac_r29 hFb.size (fun Ue ⟨_, h8⟩ => ?_)
 refine Fq.ok (wp_ret ?_)
 exact Fq.ret rfl h8 ⟨by rw [hend hSi], hbv⟩
theorem Zk9 {m n : Nat} {w W : World} {s : Tk.Sl} {i bx : Nat} {q : Tk.C} {y : Zap m (n + 1)} {U : Array Value} {Q : Exit → Act → World → Prop} (hbW : Below w.heap.size w W) (hM : Ac.M U s i bx (q.nm.toList.isEmpty) (q.ot.toList.isEmpty) (Zb3 m y.2.1.1) (Zb3 m y.2.1.2.1) ((q.th.len : Int) == 0) ((q.el.len : Int) == 0) ((q.args.len : Int) == 0)) (h48 : U[48]? = some (.int .i64 q.k)) (hbv : Tk.BV W bx q.cells) (hbx : bx < W.heap.size) (hk : q.k = y.1.1) (h35 : q.k = 3 ∨ q.k = 5)
  (hCMD : ∀ f1 f2 f3 f4 f5 f6 f7, ZaS y.1.1 = some (f1, f2, f3, f4, f5, f6, f7) → Zaf (n + 1) y = ((if f1 = true then Zam q.nm else q.nm.toList.isEmpty) && (if f2 = true then Zam q.ot else q.ot.toList.isEmpty) && (if f3 = true then Zac m y.2.1.1 else Zb3 m y.2.1.1) && (if f4 = true then Zac m y.2.1.2.1 else Zb3 m y.2.1.2.1) &&
   (if f6 = true then y.2.2.1.all (Zaf n) else ((q.th.len : Int) == 0)) && (if f7 = true then y.2.2.2.all (Zaf n) else ((q.el.len : Int) == 0)) && (if f5 = true then y.2.1.2.2.all (Zac m) else ((q.args.len : Int) == 0))))
  (hNm : ∀ V, Below w.heap.size w V → Calls Tryz.prog 27 #[.string q.nm] V fun r w' => r = .returned (.bool (Zam q.nm)) ∧ Below V.heap.size V w')
  (hOt : ∀ V, Below w.heap.size w V → Calls Tryz.prog 27 #[.string q.ot] V fun r w' => r = .returned (.bool (Zam q.ot)) ∧ Below V.heap.size V w')
  (hXI : ∀ V, Below w.heap.size w V → Calls Tryz.prog 28 #[.agg #[.int .i64 q.ix.k, .int .i64 q.ix.a, .int .i64 q.ix.n, .string q.ix.nm, .slice q.ix.args.ad q.ix.args.len q.ix.args.cap]] V fun r w' => r = .returned (.bool (Zac m y.2.1.1)) ∧ Below V.heap.size V w')
  (hXE : ∀ V, Below w.heap.size w V → Calls Tryz.prog 28 #[.agg #[.int .i64 q.ex.k, .int .i64 q.ex.a, .int .i64 q.ex.n, .string q.ex.nm, .slice q.ex.args.ad q.ex.args.len q.ex.args.cap]] V fun r w' => r = .returned (.bool (Zac m y.2.1.2.1)) ∧ Below V.heap.size V w')
  (hAR : ∀ V, Below w.heap.size w V → Tk.RS V 5 (Tk.ELies V) (Tk.RE V m) q.args y.2.1.2.2)
  (hN : ∀ T' v, (∃ c5 c6 c7 c8 c9 c10 c11, Ac.M T' s i bx c5 c6 c7 c8 c9 c10 c11 ∧ Below W.heap.size W v ∧ Zaf (n + 1) y = (c5 && c6 && c7 && c8 && c9 && c10 && c11)) → Q .normal ⟨T', []⟩ v)
  (hR : ∀ T' v, (T'[2]? = some (.bool false) ∧ Below W.heap.size W v ∧ Zaf (n + 1) y = false) → Q .ret ⟨T', []⟩ v) :
  (Fq.blk Tryz.f31 2).wp Tryz.prog Q ⟨U, []⟩ W := by
 refine ZdM Tryz.f31 2 (by kernel_rfl) ?_
 obtain ⟨V1, hV1⟩ : ∃ b, b = (q.k == 1) := ⟨_, rfl⟩
 refine wp_seq ?_
 refine Fq.at_ Tryz.f31 9 (by kernel_rfl) ?_
 refine ac_r9 hM.size h48 hV1 (fun U1 ⟨k1, t1, h48b⟩ => ?_)
 replace hM := hM.kp k1
 replace h48 := h48b
 clear k1 h48b
 refine Fq.ok (Fq.cond 49 t1 (fun he1 => ?_) (fun he1 => ?_))
 · exact absurd (show q.k = 1 by simpa using hV1.symm.trans he1) (by omega)
 obtain ⟨V2, hV2⟩ : ∃ b, b = (q.k == 2) := ⟨_, rfl⟩
 refine wp_seq ?_
 refine Fq.at_ Tryz.f31 11 (by kernel_rfl) ?_
 refine ac_r11 hM.size h48 hV2 (fun U1 ⟨k1, t1, h48b⟩ => ?_)
 replace hM := hM.kp k1
 replace h48 := h48b
 clear k1 h48b
 refine Fq.ok (Fq.cond 57 t1 (fun he2 => ?_) (fun he2 => ?_))
 · exact absurd (show q.k = 2 by simpa using hV2.symm.trans he2) (by omega)
 obtain ⟨V3, hV3⟩ : ∃ b, b = (q.k == 3) := ⟨_, rfl⟩
 refine wp_seq ?_
 refine Fq.at_ Tryz.f31 13 (by kernel_rfl) ?_
 refine ac_r13 hM.size h48 hV3 (fun U1 ⟨k1, t1, h48b⟩ => ?_)
 replace hM := hM.kp k1
 replace h48 := h48b
 clear k1 h48b
 refine Fq.ok (Fq.cond 68 t1 (fun he3 => ?_) (fun he3 => ?_))
 · refine wp_seq ?_
   refine Fq.at_ Tryz.f31 14 (by kernel_rfl) ?_
   refine ac_r14 hM.size hM.s4 hM.s7 hM.s8 hM.s9 hM.s10 hbv hbx (fun V hV => hNm V (hbW.trans (hV.mono hbW.size))) (fun V hV => hOt V (hbW.trans (hV.mono hbW.size))) (fun U2 W2 ⟨k2, g5, g6, g7, g8, g9, g10, g11, hb2⟩ => ?_)
   have hM2 := hM.put k2 g5 g6 g7 g8 g9 g10 g11
   refine Fq.ok (wp_seq ?_)
   refine Fq.at_ Tryz.f31 15 (by kernel_rfl) ?_
   refine ac_r15 hM2.size (fun U3 ⟨k3, h12⟩ => ?_)
   have hM3 := hM2.kp k3
   refine Fq.ok (wp_block ?_)
   have hbW2 := hbW.trans (hb2.mono hbW.size)
   have hln := (hAR W hbW).len
   have hfw := (hAR W hbW).few
   refine wp_loop_ghost (fun d a v => ∃ (U' : Array Value) (k : Nat), a = ⟨U', []⟩ ∧ k ≤ q.args.len ∧ d = q.args.len - k ∧ Ac.M U' s i bx (Zam q.nm) (Zam q.ot) (Zb3 m y.2.1.1) (Zb3 m y.2.1.2.1) ((q.th.len : Int) == 0) ((q.el.len : Int) == 0) ((y.2.1.2.2.take k).all (Zac m)) ∧ U'[12]? = some (.int .i64 (k : Nat)) ∧ Below W.heap.size W v) q.args.len ⟨U3, 0, rfl, Nat.zero_le _, rfl, hM3, h12, hb2⟩ ?_
   rintro d a v ⟨Ua, k, rfl, hka, rfl, hMa, h12a, hbv2⟩
   have hbvv := hbW.trans (hbv2.mono hbW.size)
   have x14 : v.cell? ⟨bx, 14, none⟩ = some (.slice q.args.ad q.args.len q.args.cap) := (hbv.below hbv2 hbx) 14 _ rfl
   refine wp_seq (wp_seq ?_)
   refine Fq.at_ Tryz.f31 16 (by kernel_rfl) ?_
   refine ac_r16 hMa.size hMa.s4 h12a x14 rfl (fun Ub ⟨kb, h80⟩ => ?_)
   have hMb := hMa.kp (kb.mono (by omega))
   have h12b := (kb.at_ 12 (by omega)).trans h12a
   refine Fq.ok (Fq.cond 80 h80 (fun hb => ?_) (fun hb => ?_))
   · have hkt : k < q.args.len := by have := of_decide_eq_true hb; omega
     have hkt2 : k < y.2.1.2.2.length := by omega
     have hyk := Zg hkt2
     obtain ⟨ba, oa, e, had', hb', hlies', hrd'⟩ := (hAR v hbvv).at_ k _ hyk
     have hta := Ac.all_take (Zac m) y.2.1.2.2 k _ hyk
     rw [had'] at x14
     refine Fq.skip (Fq.ok (wp_seq (wp_block ?_)))
     refine Fq.at_ Tryz.f31 18 (by kernel_rfl) ?_
     refine ac_r18 hMb.size hMb.s4 hMb.s5 hMb.s6 hMb.s7 hMb.s8 hMb.s9 hMb.s10 hMb.s11 h12b x14 hkt hlies'.c0 hlies'.c1 hlies'.c2 hlies'.c3 hlies'.c4 (Zea m e _ v hrd') (fun Uc vc ⟨kc, e5, e6, e7, e8, e9, e10, e11, e12, hbc⟩ => ?_)
     rw [← hta] at e11
     have hMc := hMb.put kc e5 e6 e7 e8 e9 e10 e11
     refine Zgv (Fq.ok ?_)
     refine Fq.at_ Tryz.f31 17 (by kernel_rfl) ?_
     refine ac_r17 hMc.size e12 (by omega) (fun Ud ⟨kd, h12d⟩ => ?_)
     exact ⟨q.args.len - (k + 1), by omega, Ud, k + 1, rfl, by omega, rfl, hMc.kp kd, h12d, hbv2.trans (hbc.mono hbv2.size)⟩
   have hge : k = q.args.len := by have := of_decide_eq_false hb; omega
   subst hge
   rw [List.take_of_length_le (by omega)] at hMb
   refine wp_exit ?_
   refine ZdK (ZdK (Zh1 ?_))
   exact hN _ _ ⟨_, _, _, _, _, _, _, hMb, hbv2, hCMD true true false false true false false (by rw [← hk, show q.k = 3 by simpa using hV3.symm.trans he3]; rfl)⟩
 obtain ⟨V4, hV4⟩ : ∃ b, b = (q.k == 4) := ⟨_, rfl⟩
 refine wp_seq ?_
 refine Fq.at_ Tryz.f31 19 (by kernel_rfl) ?_
 refine ac_r19 hM.size h48 hV4 (fun U1 ⟨k1, t1, h48b⟩ => ?_)
 replace hM := hM.kp k1
 replace h48 := h48b
 clear k1 h48b
 refine Fq.ok (Fq.cond 92 t1 (fun he4 => ?_) (fun he4 => ?_))
 · exact absurd (show q.k = 4 by simpa using hV4.symm.trans he4) (by omega)
 obtain ⟨V5, hV5⟩ : ∃ b, b = (q.k == 5) := ⟨_, rfl⟩
 refine wp_seq ?_
 refine Fq.at_ Tryz.f31 21 (by kernel_rfl) ?_
 refine ac_r21 hM.size h48 hV5 (fun U1 ⟨k1, t1, h48b⟩ => ?_)
 replace hM := hM.kp k1
 replace h48 := h48b
 clear k1 h48b
 refine Fq.ok (Fq.cond 97 t1 (fun he5 => ?_) (fun he5 => ?_))
 · refine Fq.at_ Tryz.f31 22 (by kernel_rfl) ?_
   refine ac_r22 hM.size hM.s4 hM.s5 hM.s6 hM.s7 hM.s9 hM.s10 hM.s11 (hbv 9 _ rfl) (hbv 10 _ rfl) (hbv 11 _ rfl) (hbv 12 _ rfl) (hbv 13 _ rfl) (hXE W hbW) (fun U2 W2 ⟨k2, g5, g6, g7, g8, g9, g10, g11, hb2⟩ => ?_)
   exact hN U2 W2 ⟨_, _, _, _, _, _, _, hM.put (k2) g5 g6 g7 g8 g9 g10 g11, hb2, hCMD false false false true false false false (by rw [← hk, show q.k = 5 by simpa using hV5.symm.trans he5]; rfl)⟩
 obtain ⟨V6, hV6⟩ : ∃ b, b = (q.k == 6) := ⟨_, rfl⟩
 refine wp_seq ?_
 refine Fq.at_ Tryz.f31 23 (by kernel_rfl) ?_
 refine ac_r23 hM.size h48 hV6 (fun U1 ⟨k1, t1, h48b⟩ => ?_)
 replace hM := hM.kp k1
 replace h48 := h48b
 clear k1 h48b
 refine Fq.ok (Fq.cond 102 t1 (fun he6 => ?_) (fun he6 => ?_))
 · exact absurd (show q.k = 6 by simpa using hV6.symm.trans he6) (by omega)
 obtain ⟨V7, hV7⟩ : ∃ b, b = (q.k == 7) := ⟨_, rfl⟩
 refine wp_seq ?_
 refine Fq.at_ Tryz.f31 25 (by kernel_rfl) ?_
 refine ac_r25 hM.size h48 hV7 (fun U1 ⟨k1, t1, h48b⟩ => ?_)
 replace hM := hM.kp k1
 replace h48 := h48b
 clear k1 h48b
 refine Fq.ok (Fq.cond 113 t1 (fun he7 => ?_) (fun he7 => ?_))
 · exact absurd (show q.k = 7 by simpa using hV7.symm.trans he7) (by omega)
 have n3 : ¬ q.k = 3 := by have := hV3.symm.trans he3; simpa using this
 have n5 : ¬ q.k = 5 := by have := hV5.symm.trans he5; simpa using this
 exact absurd h35 (by omega)
theorem Zlu {m n : Nat} {s : Tk.Sl} {w wr : World} (hbw : Below w.heap.size w wr) {b o i : Nat} (had : s.ad = some ⟨b, o, none⟩) (hlt : i < s.len) {q : Tk.C} {y : Zap m (n + 1)} (hrd : Tk.RC w m (n + 1) q y) (h35 : y.1.1 = 3 ∨ y.1.1 = 5)
  (hcell : ∀ j v, q.cells[j]? = some v → wr.cell? ⟨b, o + i * 17 + j, none⟩ = some v) {U : Array Value} (hF : Ac.F U s i) {Q : Exit → Act → World → Prop}
  (hQn : ∀ U' v, Ac.F U' s i → Below wr.heap.size wr v → Zaf (n + 1) y = true → Q .normal ⟨U', []⟩ v) (hQr : ∀ U' v, U'[2]? = some (.bool false) → Below wr.heap.size wr v → Zaf (n + 1) y = false → Q .ret ⟨U', []⟩ v) :
  (Fq.blk Tryz.f31 1).wp Tryz.prog Q ⟨U, []⟩ wr := by
 obtain ⟨⟨⟨hk, -, hn1, hn2⟩, hnm, hot⟩, ⟨hix, hex, hargs⟩, hth, hel⟩ := hrd
 have hal := (Below.refl wr.heap.size wr).alloc Zl (Obj.cells q.cells 56)
 have hBV : Tk.BV (wr.alloc (Obj.cells q.cells 56)) wr.heap.size q.cells := ZdA wr q
 have hbx : wr.heap.size < (wr.alloc (Obj.cells q.cells 56)).heap.size := by simp
 have hW1 := hbw.trans (hal.mono hbw.size)
 have hCMD := ZlG y q hn1 hn2 hth.len hel.len hargs.len
 refine ZdM Tryz.f31 1 (by kernel_rfl) ?_
 refine wp_seq ?_
 refine Fq.at_ Tryz.f31 4 (by kernel_rfl) ?_
 refine ac_r4 hF.size hF.s0 hF.s3 had hlt hcell (fun U1 ⟨k1, h4⟩ => ?_)
 generalize wr.alloc (Obj.cells q.cells 56) = W1 at *
 refine Fq.ok (wp_seq ?_)
 refine Fq.at_ Tryz.f31 5 (by kernel_rfl) ?_
 refine ac_r5 (k1.size.trans hF.size) h4 hBV hbx (fun V hV => ZeG m q.ix y.2.1.1 V (hix.later (hW1.trans (hV.mono hW1.size)) Zl)) (fun V hV => ZeG m q.ex y.2.1.2.1 V (hex.later (hW1.trans (hV.mono hW1.size)) Zl)) (fun U2 W2 ⟨k2, h5, h6, h7, h8, hb2⟩ => ?_)
 refine Fq.ok (wp_seq ?_)
 refine Fq.at_ Tryz.f31 6 (by kernel_rfl) ?_
 have hBV2 := hBV.below hb2 hbx
 have hbx2 : wr.heap.size < W2.heap.size := Nat.lt_of_lt_of_le hbx hb2.size
 refine ac_r6 (k2.size.trans (k1.size.trans hF.size)) ((k2.at_ 4 (by omega)).trans h4) h5 h6 h7 h8 hBV2 hbx2 (fun U3 W3 ⟨k3, g5, g6, g7, g8, g9, g10, g11, hb3⟩ => ?_)
 have hM : Ac.M U3 s i wr.heap.size (q.nm.toList.isEmpty) (q.ot.toList.isEmpty) (Zb3 m y.2.1.1) (Zb3 m y.2.1.2.1) ((q.th.len : Int) == 0) ((q.el.len : Int) == 0) ((q.args.len : Int) == 0) := ⟨k3.size.trans (k2.size.trans (k1.size.trans hF.size)), (k3.at_ 0 (by omega)).trans ((k2.at_ 0 (by omega)).trans ((k1.at_ 0 (by omega)).trans hF.s0)), (k3.at_ 3 (by omega)).trans ((k2.at_ 3 (by omega)).trans ((k1.at_ 3 (by omega)).trans hF.s3)), (k3.at_ 4 (by omega)).trans ((k2.at_ 4 (by omega)).trans h4), g5, g6, g7, g8, g9, g10, g11⟩
 have hBV3 := hBV2.below hb3 hbx2
 have hbx3 : wr.heap.size < W3.heap.size := Nat.lt_of_lt_of_le hbx2 hb3.size
 have hW2 := hW1.trans (hb2.mono hW1.size)
 have hW3 := hW2.trans (hb3.mono hW2.size)
 have hR3 : Below wr.heap.size wr W3 := hal.trans ((hb2.mono hal.size).trans (hb3.mono (Nat.le_trans hal.size hb2.size)))
 refine Fq.ok ?_
 refine Zl3 (fun T' v => ∃ c5 c6 c7 c8 c9 c10 c11, Ac.M T' s i wr.heap.size c5 c6 c7 c8 c9 c10 c11 ∧ Below W3.heap.size W3 v ∧ Zaf (n + 1) y = (c5 && c6 && c7 && c8 && c9 && c10 && c11)) (fun T' v => T'[2]? = some (.bool false) ∧ Below W3.heap.size W3 v ∧ Zaf (n + 1) y = false) (fun Q' hN hR => ?_) (fun T' v ⟨h1, h2, h3⟩ => ?_) (fun T' v ⟨c5, c6, c7, c8, c9, c10, c11, hM', hb', hc'⟩ => ?_)
 · refine wp_seq ?_
   refine Fq.at_ Tryz.f31 7 (by kernel_rfl) ?_
   refine ac_r7 hM.size hM.s4 (hBV3 0 _ rfl) (fun U4 ⟨k4, h48⟩ => ?_)
   refine Fq.ok (wp_block ?_)
   refine ZdM Tryz.f31 2 (by kernel_rfl) ?_
   exact Zk9 hW3 (hM.kp k4) h48 hBV3 hbx3 hk (by rw [hk]; exact h35) hCMD (fun V _ => ZbB q.nm V hnm) (fun V _ => ZbB q.ot V hot) (fun V hV => Zea m q.ix y.2.1.1 V (hix.later hV Zl)) (fun V hV => Zea m q.ex y.2.1.2.1 V (hex.later hV Zl))
    (fun V hV => hargs.laterE hV Zl) (fun T' v h => Zgv (hN T' v h)) (fun T' v h => ZfA (hR T' v h))
 · exact hQr T' v h1 (hR3.trans (h2.mono hR3.size)) h3
 refine wp_seq ?_
 refine Fq.at_ Tryz.f31 27 (by kernel_rfl) ?_
 refine ac_r27 hM'.size hM'.s5 hM'.s6 hM'.s7 hM'.s8 hM'.s9 hM'.s10 hM'.s11 (fun U5 ⟨k5, h146⟩ => ?_)
 have hM5 := hM'.kp k5
 refine Fq.ok (Fq.cond 146 h146 (fun hb => ?_) (fun hb => ?_))
 · refine wp_seq ?_
   refine Fq.at_ Tryz.f31 28 (by kernel_rfl) ?_
   refine ac_r28 hM5.size (fun U6 ⟨_, h2⟩ => ?_)
   refine Fq.ok (wp_ret ?_)
   repeat (first | with_reducible refine ZgG ?_ | with_reducible refine ZfA ?_)
   exact hQr _ _ h2 (hR3.trans (hb'.mono hR3.size)) (by rw [hc']; revert hb; generalize (c5 && c6 && c7 && c8 && c9 && c10 && c11) = X; cases X <;> simp)
 refine Fq.skip ?_
 exact hQn _ _ ⟨hM5.size, hM5.s0, hM5.s3⟩ (hR3.trans (hb'.mono hR3.size)) (by rw [hc']; revert hb; generalize (c5 && c6 && c7 && c8 && c9 && c10 && c11) = X; cases X <;> simp)
def Dk.k35 {m : Nat} : (n : Nat) → Zap m n → Prop
 | 0, _ => True
 | _ + 1, y => y.1.1 = 3 ∨ y.1.1 = 5
theorem ZiH {m : Nat} : ∀ (n : Nat) (s : Tk.Sl) (l : List (Zap m n)) (w : World), Tk.RS w 17 (Tk.LC w) (Tk.RC w m n) s l → (∀ y ∈ l, Dk.k35 n y) → Calls Tryz.prog 31 #[.slice s.ad s.len s.cap] w fun r w' => r = .returned (.bool (l.all (Zaf n))) ∧ Below w.heap.size w w' := by
 intro n
 cases n with
 | zero =>
  intro s l w hs _
  obtain rfl : l = [] := by cases l with | nil => rfl | cons y r => exact nomatch (show Empty from y)
  have h0 : s.len = 0 := hs.len
  exact ZkU s (by omega) w _ (fun _ => True) trivial (fun _ => rfl) (fun i hi => absurd hi (by omega))
 | succ n =>
  intro s l w hs h35
  have hlen := hs.len
  have hfew := hs.few
  refine ZkU s (by omega) w _ (fun i => l.all (Zaf (n + 1)) = (l.drop i).all (Zaf (n + 1))) rfl (fun h => by rw [h, List.drop_eq_nil_of_le (by omega)]; rfl) ?_
  intro i hi hSi wr hbw U hF Q hQn hQr
  have hlt2 : i < l.length := by omega
  have hy := Zg hlt2
  obtain ⟨b, o, q, had, hb, hlies, hrd⟩ := hs.at_ i _ hy
  have hst : l.all (Zaf (n + 1)) = (Zaf (n + 1) l[i] && (l.drop (i + 1)).all (Zaf (n + 1))) := by
   rw [hSi, List.drop_eq_getElem_cons hlt2]
   rfl
  refine Zlu hbw had hi hrd (h35 _ (List.getElem_mem hlt2)) ((hlies.later hbw Zl hb).cells) hF (fun U' v hF' hb' h1 => ?_) (fun U' v h2 hb' h1 => ?_)
  · exact hQn U' v hF' hb' (by rw [hst, h1]; rfl)
  exact hQr U' v (by rw [hst, h1]; exact h2) hb'
end Go.Proofs.YtfccpddehpgfoaaGreatDoor
