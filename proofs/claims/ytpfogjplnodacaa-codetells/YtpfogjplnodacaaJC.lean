/-
  YRa, YRb, YRc, YRd, YRe, YRf, YRg, YRd1, YCmds. By the verifier.
-/
import Derived.Test.YtpfogjplnodacaaJB
import Derived.Deep.RegionHeld3
set_option maxRecDepth 100000
set_option maxHeartbeats 3200000
namespace Go.Proofs.Ytpfogjplnodacaa
open Go.RowKit
set_option linter.unusedVariables false
section
variable {T : Array Value} {w : World} {Q : Exit → Act → World → Prop} {qa ad sa fa ra ia ea aa ta la : Option Addr} {ql qc tl tcap sl sc fl fc rl rc il ic el ec na ac nt tc ne lc bp bx : Nat} {calls i ck cv cf ik inn ek en fp rk rn : Int}
theorem ck_r12_1 (hF : Ck.Fm T calls ad tl tcap bp i bx 1) (hY : Pg.YB (.slice qa ql qc) [.int .i64 fp, .slice sa sl sc, .slice fa fl fc, .int .i64 rk, .int .i64 rn, .slice ra rl rc] [.int .i64 1, .int .i64 cv, .int .i64 cf, .int .i64 ik, .int .i64 inn, .slice ia il ic, .int .i64 ek, .int .i64 en, .slice ea el ec, .slice aa na ac, .slice ta nt tc, .slice la ne lc] bp bx w) {bi be mo : Bool} (hna : na ≤ 35184372088832) (hnt : nt ≤ 35184372088832) (hne : ne ≤ 35184372088832) (hix : ∀ V, Below w.heap.size w V → Calls Try.prog 14 #[.agg #[.int .i64 ik, .int .i64 inn, .slice ia il ic]] V fun r w' => r = .returned (.bool (!bi)) ∧ Below V.heap.size V w') (hex : ∀ V, Below w.heap.size w V → Calls Try.prog 14 #[.agg #[.int .i64 ek, .int .i64 en, .slice ea el ec]] V fun r w' => r = .returned (.bool (!be)) ∧ Below V.heap.size V w') (hmo : mo = Pg.more 1 cv cf na bi be nt ne)
  (hQ : ∀ T' w', (Fq.Kp 14 T T' ∧ T'[150]? = some (.bool mo) ∧ Below w.heap.size w w') → Q .normal ⟨T', []⟩ w') : (Fq.reg Try.f13 12).wp Try.prog Q ⟨T, []⟩ w := by
 obtain ⟨hT, s2, s3, s4, s5, s9, s10, s11⟩ := hF
 have x0 := hY.x 0 _ rfl
 have x1 := hY.x 1 _ rfl
 have x2 := hY.x 2 _ rfl
 have x3 := hY.x 3 _ rfl
 have x4 := hY.x 4 _ rfl
 have x5 := hY.x 5 _ rfl
 have x6 := hY.x 6 _ rfl
 have x7 := hY.x 7 _ rfl
 have x8 := hY.x 8 _ rfl
 have x9 := hY.x 9 _ rfl
 have x10 := hY.x 10 _ rfl
 have x11 := hY.x 11 _ rfl
 have f0 := hY.f 0 _ rfl
 have f1 := hY.f 1 _ rfl
 have f2 := hY.f 2 _ rfl
 have f3 := hY.f 3 _ rfl
 have f4 := hY.f 4 _ rfl
 have f5 := hY.f 5 _ rfl
 have p0 := hY.p0
 have HYC := hide hY
 have HBC := hide (Below.refl w.heap.size w)
 clear hY
 have a2 := fun h => Fq.el s2 h
 have d2 := Fq.gd s2
 have a3 := fun h => Fq.el s3 h
 have d3 := Fq.gd s3
 have a4 := fun h => Fq.el s4 h
 have d4 := Fq.gd s4
 have a5 := fun h => Fq.el s5 h
 have d5 := Fq.gd s5
 have a9 := fun h => Fq.el s9 h
 have d9 := Fq.gd s9
 have a10 := fun h => Fq.el s10 h
 have d10 := Fq.gd s10
 have a11 := fun h => Fq.el s11 h
 have d11 := Fq.gd s11
 have hu : undef = Value.tuple #[] := rfl
 have HQ := hide hQ
 clear hQ
 conv => arg 2; whnf
 have HIX := hide hix
 have HEX := hide hex
 have HMO := hide hmo
 clear hix hex hmo
 simp only [List.append_eq, List.cons_append, List.nil_append]
 rcases (show cf = 0 ∨ cf ≠ 0 by omega) with rfl | hcf
 · go_wp2_with fail
   with_reducible refine (Calls.mono ((unhide HIX) _ (unhide HBC)) ?_)
   rintro r wI ⟨rfl, hbC⟩
   have HY3 := hide ((unhide HYC).later hbC)
   clear x0 x1 x2 x3 x4 x5 x6 x7 x8 x9 x10 x11 f0 f1 f2 f3 f4 f5 p0 HYC
   have HYC := hide (unhide HY3)
   have HBC2 := hide ((unhide HBC).trans (hbC.mono (unhide HBC).size))
   clear HBC hbC HY3
   have HBC := hide (unhide HBC2)
   clear HBC2
   have x0 := (unhide HYC).x 0 _ rfl
   have x1 := (unhide HYC).x 1 _ rfl
   have x2 := (unhide HYC).x 2 _ rfl
   have x3 := (unhide HYC).x 3 _ rfl
   have x4 := (unhide HYC).x 4 _ rfl
   have x5 := (unhide HYC).x 5 _ rfl
   have x6 := (unhide HYC).x 6 _ rfl
   have x7 := (unhide HYC).x 7 _ rfl
   have x8 := (unhide HYC).x 8 _ rfl
   have x9 := (unhide HYC).x 9 _ rfl
   have x10 := (unhide HYC).x 10 _ rfl
   have x11 := (unhide HYC).x 11 _ rfl
   have f0 := (unhide HYC).f 0 _ rfl
   have f1 := (unhide HYC).f 1 _ rfl
   have f2 := (unhide HYC).f 2 _ rfl
   have f3 := (unhide HYC).f 3 _ rfl
   have f4 := (unhide HYC).f 4 _ rfl
   have f5 := (unhide HYC).f 5 _ rfl
   have p0 := (unhide HYC).p0
   cases bi
   · rcases (show na = 0 ∨ 0 < na by omega) with rfl | hna
     · rcases (show nt = 0 ∨ 0 < nt by omega) with rfl | hnt
       · rcases (show ne = 0 ∨ 0 < ne by omega) with rfl | hne
         · go_wp2_with fail
           exact (unhide HQ) _ _ ⟨(by (repeat (with_reducible refine Fq.Kp.set ?_ (by decide) _)); with_reducible exact Fq.Kp.refl _ _), (Fq.set_at _ (by simp [hT]) _).trans (by rw [unhide HMO]; simp [Pg.more, *]), unhide HBC⟩
         · have bne : (0 : Int) < (ne : Int) := by omega
           go_wp2_with fail
           exact (unhide HQ) _ _ ⟨(by (repeat (with_reducible refine Fq.Kp.set ?_ (by decide) _)); with_reducible exact Fq.Kp.refl _ _), (Fq.set_at _ (by simp [hT]) _).trans (by rw [unhide HMO]; simp [Pg.more, *]), unhide HBC⟩
       · have bnt : (0 : Int) < (nt : Int) := by omega
         go_wp2_with fail
         exact (unhide HQ) _ _ ⟨(by (repeat (with_reducible refine Fq.Kp.set ?_ (by decide) _)); with_reducible exact Fq.Kp.refl _ _), (Fq.set_at _ (by simp [hT]) _).trans (by rw [unhide HMO]; simp [Pg.more, *]), unhide HBC⟩
     · have bna : (0 : Int) < (na : Int) := by omega
       go_wp2_with fail
       exact (unhide HQ) _ _ ⟨(by (repeat (with_reducible refine Fq.Kp.set ?_ (by decide) _)); with_reducible exact Fq.Kp.refl _ _), (Fq.set_at _ (by simp [hT]) _).trans (by rw [unhide HMO]; simp [Pg.more, *]), unhide HBC⟩
   · go_wp2_with fail
     exact (unhide HQ) _ _ ⟨(by (repeat (with_reducible refine Fq.Kp.set ?_ (by decide) _)); with_reducible exact Fq.Kp.refl _ _), (Fq.set_at _ (by simp [hT]) _).trans (by rw [unhide HMO]; simp [Pg.more, *]), unhide HBC⟩
 · have bcf : (cf != 0) = true := by simpa using hcf
   go_wp2_with fail
   exact (unhide HQ) _ _ ⟨(by (repeat (with_reducible refine Fq.Kp.set ?_ (by decide) _)); with_reducible exact Fq.Kp.refl _ _), (Fq.set_at _ (by simp [hT]) _).trans (by rw [unhide HMO]; simp [Pg.more, *]), unhide HBC⟩
theorem ck_r12_2 (hF : Ck.Fm T calls ad tl tcap bp i bx 2) (hY : Pg.YB (.slice qa ql qc) [.int .i64 fp, .slice sa sl sc, .slice fa fl fc, .int .i64 rk, .int .i64 rn, .slice ra rl rc] [.int .i64 2, .int .i64 cv, .int .i64 cf, .int .i64 ik, .int .i64 inn, .slice ia il ic, .int .i64 ek, .int .i64 en, .slice ea el ec, .slice aa na ac, .slice ta nt tc, .slice la ne lc] bp bx w) {bi be mo : Bool} (hna : na ≤ 35184372088832) (hnt : nt ≤ 35184372088832) (hne : ne ≤ 35184372088832) (hix : ∀ V, Below w.heap.size w V → Calls Try.prog 14 #[.agg #[.int .i64 ik, .int .i64 inn, .slice ia il ic]] V fun r w' => r = .returned (.bool (!bi)) ∧ Below V.heap.size V w') (hex : ∀ V, Below w.heap.size w V → Calls Try.prog 14 #[.agg #[.int .i64 ek, .int .i64 en, .slice ea el ec]] V fun r w' => r = .returned (.bool (!be)) ∧ Below V.heap.size V w') (hmo : mo = Pg.more 2 cv cf na bi be nt ne)
  (hQ : ∀ T' w', (Fq.Kp 14 T T' ∧ T'[150]? = some (.bool mo) ∧ Below w.heap.size w w') → Q .normal ⟨T', []⟩ w') : (Fq.reg Try.f13 12).wp Try.prog Q ⟨T, []⟩ w := by
 obtain ⟨hT, s2, s3, s4, s5, s9, s10, s11⟩ := hF
 have x0 := hY.x 0 _ rfl
 have x1 := hY.x 1 _ rfl
 have x2 := hY.x 2 _ rfl
 have x3 := hY.x 3 _ rfl
 have x4 := hY.x 4 _ rfl
 have x5 := hY.x 5 _ rfl
 have x6 := hY.x 6 _ rfl
 have x7 := hY.x 7 _ rfl
 have x8 := hY.x 8 _ rfl
 have x9 := hY.x 9 _ rfl
 have x10 := hY.x 10 _ rfl
 have x11 := hY.x 11 _ rfl
 have f0 := hY.f 0 _ rfl
 have f1 := hY.f 1 _ rfl
 have f2 := hY.f 2 _ rfl
 have f3 := hY.f 3 _ rfl
 have f4 := hY.f 4 _ rfl
 have f5 := hY.f 5 _ rfl
 have p0 := hY.p0
 have HYC := hide hY
 have HBC := hide (Below.refl w.heap.size w)
 clear hY
 have a2 := fun h => Fq.el s2 h
 have d2 := Fq.gd s2
 have a3 := fun h => Fq.el s3 h
 have d3 := Fq.gd s3
 have a4 := fun h => Fq.el s4 h
 have d4 := Fq.gd s4
 have a5 := fun h => Fq.el s5 h
 have d5 := Fq.gd s5
 have a9 := fun h => Fq.el s9 h
 have d9 := Fq.gd s9
 have a10 := fun h => Fq.el s10 h
 have d10 := Fq.gd s10
 have a11 := fun h => Fq.el s11 h
 have d11 := Fq.gd s11
 have hu : undef = Value.tuple #[] := rfl
 have HQ := hide hQ
 clear hQ
 conv => arg 2; whnf
 have HIX := hide hix
 have HEX := hide hex
 have HMO := hide hmo
 clear hix hex hmo
 simp only [List.append_eq, List.cons_append, List.nil_append]
 rcases (show cf = 0 ∨ cf ≠ 0 by omega) with rfl | hcf
 · rcases (show na = 0 ∨ 0 < na by omega) with rfl | hna
   · rcases (show nt = 0 ∨ 0 < nt by omega) with rfl | hnt
     · rcases (show ne = 0 ∨ 0 < ne by omega) with rfl | hne
       · go_wp2_with fail
         exact (unhide HQ) _ _ ⟨(by (repeat (with_reducible refine Fq.Kp.set ?_ (by decide) _)); with_reducible exact Fq.Kp.refl _ _), (Fq.set_at _ (by simp [hT]) _).trans (by rw [unhide HMO]; simp [Pg.more, *]), unhide HBC⟩
       · have bne : (0 : Int) < (ne : Int) := by omega
         go_wp2_with fail
         exact (unhide HQ) _ _ ⟨(by (repeat (with_reducible refine Fq.Kp.set ?_ (by decide) _)); with_reducible exact Fq.Kp.refl _ _), (Fq.set_at _ (by simp [hT]) _).trans (by rw [unhide HMO]; simp [Pg.more, *]), unhide HBC⟩
     · have bnt : (0 : Int) < (nt : Int) := by omega
       go_wp2_with fail
       exact (unhide HQ) _ _ ⟨(by (repeat (with_reducible refine Fq.Kp.set ?_ (by decide) _)); with_reducible exact Fq.Kp.refl _ _), (Fq.set_at _ (by simp [hT]) _).trans (by rw [unhide HMO]; simp [Pg.more, *]), unhide HBC⟩
   · have bna : (0 : Int) < (na : Int) := by omega
     go_wp2_with fail
     exact (unhide HQ) _ _ ⟨(by (repeat (with_reducible refine Fq.Kp.set ?_ (by decide) _)); with_reducible exact Fq.Kp.refl _ _), (Fq.set_at _ (by simp [hT]) _).trans (by rw [unhide HMO]; simp [Pg.more, *]), unhide HBC⟩
 · have bcf : (cf != 0) = true := by simpa using hcf
   go_wp2_with fail
   exact (unhide HQ) _ _ ⟨(by (repeat (with_reducible refine Fq.Kp.set ?_ (by decide) _)); with_reducible exact Fq.Kp.refl _ _), (Fq.set_at _ (by simp [hT]) _).trans (by rw [unhide HMO]; simp [Pg.more, *]), unhide HBC⟩
theorem ck_r12_3 (hF : Ck.Fm T calls ad tl tcap bp i bx 3) (hY : Pg.YB (.slice qa ql qc) [.int .i64 fp, .slice sa sl sc, .slice fa fl fc, .int .i64 rk, .int .i64 rn, .slice ra rl rc] [.int .i64 3, .int .i64 cv, .int .i64 cf, .int .i64 ik, .int .i64 inn, .slice ia il ic, .int .i64 ek, .int .i64 en, .slice ea el ec, .slice aa na ac, .slice ta nt tc, .slice la ne lc] bp bx w) {bi be mo : Bool} (hna : na ≤ 35184372088832) (hnt : nt ≤ 35184372088832) (hne : ne ≤ 35184372088832) (hix : ∀ V, Below w.heap.size w V → Calls Try.prog 14 #[.agg #[.int .i64 ik, .int .i64 inn, .slice ia il ic]] V fun r w' => r = .returned (.bool (!bi)) ∧ Below V.heap.size V w') (hex : ∀ V, Below w.heap.size w V → Calls Try.prog 14 #[.agg #[.int .i64 ek, .int .i64 en, .slice ea el ec]] V fun r w' => r = .returned (.bool (!be)) ∧ Below V.heap.size V w') (hmo : mo = Pg.more 3 cv cf na bi be nt ne)
  (hQ : ∀ T' w', (Fq.Kp 14 T T' ∧ T'[150]? = some (.bool mo) ∧ Below w.heap.size w w') → Q .normal ⟨T', []⟩ w') : (Fq.reg Try.f13 12).wp Try.prog Q ⟨T, []⟩ w := by
 obtain ⟨hT, s2, s3, s4, s5, s9, s10, s11⟩ := hF
 have x0 := hY.x 0 _ rfl
 have x1 := hY.x 1 _ rfl
 have x2 := hY.x 2 _ rfl
 have x3 := hY.x 3 _ rfl
 have x4 := hY.x 4 _ rfl
 have x5 := hY.x 5 _ rfl
 have x6 := hY.x 6 _ rfl
 have x7 := hY.x 7 _ rfl
 have x8 := hY.x 8 _ rfl
 have x9 := hY.x 9 _ rfl
 have x10 := hY.x 10 _ rfl
 have x11 := hY.x 11 _ rfl
 have f0 := hY.f 0 _ rfl
 have f1 := hY.f 1 _ rfl
 have f2 := hY.f 2 _ rfl
 have f3 := hY.f 3 _ rfl
 have f4 := hY.f 4 _ rfl
 have f5 := hY.f 5 _ rfl
 have p0 := hY.p0
 have HYC := hide hY
 have HBC := hide (Below.refl w.heap.size w)
 clear hY
 have a2 := fun h => Fq.el s2 h
 have d2 := Fq.gd s2
 have a3 := fun h => Fq.el s3 h
 have d3 := Fq.gd s3
 have a4 := fun h => Fq.el s4 h
 have d4 := Fq.gd s4
 have a5 := fun h => Fq.el s5 h
 have d5 := Fq.gd s5
 have a9 := fun h => Fq.el s9 h
 have d9 := Fq.gd s9
 have a10 := fun h => Fq.el s10 h
 have d10 := Fq.gd s10
 have a11 := fun h => Fq.el s11 h
 have d11 := Fq.gd s11
 have hu : undef = Value.tuple #[] := rfl
 have HQ := hide hQ
 clear hQ
 conv => arg 2; whnf
 have HIX := hide hix
 have HEX := hide hex
 have HMO := hide hmo
 clear hix hex hmo
 simp only [List.append_eq, List.cons_append, List.nil_append]
 go_wp2_with fail
 with_reducible refine (Calls.mono ((unhide HIX) _ (unhide HBC)) ?_)
 rintro r wI ⟨rfl, hbC⟩
 have HY3 := hide ((unhide HYC).later hbC)
 clear x0 x1 x2 x3 x4 x5 x6 x7 x8 x9 x10 x11 f0 f1 f2 f3 f4 f5 p0 HYC
 have HYC := hide (unhide HY3)
 have HBC2 := hide ((unhide HBC).trans (hbC.mono (unhide HBC).size))
 clear HBC hbC HY3
 have HBC := hide (unhide HBC2)
 clear HBC2
 have x0 := (unhide HYC).x 0 _ rfl
 have x1 := (unhide HYC).x 1 _ rfl
 have x2 := (unhide HYC).x 2 _ rfl
 have x3 := (unhide HYC).x 3 _ rfl
 have x4 := (unhide HYC).x 4 _ rfl
 have x5 := (unhide HYC).x 5 _ rfl
 have x6 := (unhide HYC).x 6 _ rfl
 have x7 := (unhide HYC).x 7 _ rfl
 have x8 := (unhide HYC).x 8 _ rfl
 have x9 := (unhide HYC).x 9 _ rfl
 have x10 := (unhide HYC).x 10 _ rfl
 have x11 := (unhide HYC).x 11 _ rfl
 have f0 := (unhide HYC).f 0 _ rfl
 have f1 := (unhide HYC).f 1 _ rfl
 have f2 := (unhide HYC).f 2 _ rfl
 have f3 := (unhide HYC).f 3 _ rfl
 have f4 := (unhide HYC).f 4 _ rfl
 have f5 := (unhide HYC).f 5 _ rfl
 have p0 := (unhide HYC).p0
 cases bi
 · go_wp2_with fail
   with_reducible refine (Calls.mono ((unhide HEX) _ (unhide HBC)) ?_)
   rintro r wE ⟨rfl, hbC⟩
   have HY3 := hide ((unhide HYC).later hbC)
   clear x0 x1 x2 x3 x4 x5 x6 x7 x8 x9 x10 x11 f0 f1 f2 f3 f4 f5 p0 HYC
   have HYC := hide (unhide HY3)
   have HBC2 := hide ((unhide HBC).trans (hbC.mono (unhide HBC).size))
   clear HBC hbC HY3
   have HBC := hide (unhide HBC2)
   clear HBC2
   have x0 := (unhide HYC).x 0 _ rfl
   have x1 := (unhide HYC).x 1 _ rfl
   have x2 := (unhide HYC).x 2 _ rfl
   have x3 := (unhide HYC).x 3 _ rfl
   have x4 := (unhide HYC).x 4 _ rfl
   have x5 := (unhide HYC).x 5 _ rfl
   have x6 := (unhide HYC).x 6 _ rfl
   have x7 := (unhide HYC).x 7 _ rfl
   have x8 := (unhide HYC).x 8 _ rfl
   have x9 := (unhide HYC).x 9 _ rfl
   have x10 := (unhide HYC).x 10 _ rfl
   have x11 := (unhide HYC).x 11 _ rfl
   have f0 := (unhide HYC).f 0 _ rfl
   have f1 := (unhide HYC).f 1 _ rfl
   have f2 := (unhide HYC).f 2 _ rfl
   have f3 := (unhide HYC).f 3 _ rfl
   have f4 := (unhide HYC).f 4 _ rfl
   have f5 := (unhide HYC).f 5 _ rfl
   have p0 := (unhide HYC).p0
   cases be
   · rcases (show nt = 0 ∨ 0 < nt by omega) with rfl | hnt
     · rcases (show ne = 0 ∨ 0 < ne by omega) with rfl | hne
       · go_wp2_with fail
         exact (unhide HQ) _ _ ⟨(by (repeat (with_reducible refine Fq.Kp.set ?_ (by decide) _)); with_reducible exact Fq.Kp.refl _ _), (Fq.set_at _ (by simp [hT]) _).trans (by rw [unhide HMO]; simp [Pg.more, *]), unhide HBC⟩
       · have bne : (0 : Int) < (ne : Int) := by omega
         go_wp2_with fail
         exact (unhide HQ) _ _ ⟨(by (repeat (with_reducible refine Fq.Kp.set ?_ (by decide) _)); with_reducible exact Fq.Kp.refl _ _), (Fq.set_at _ (by simp [hT]) _).trans (by rw [unhide HMO]; simp [Pg.more, *]), unhide HBC⟩
     · have bnt : (0 : Int) < (nt : Int) := by omega
       go_wp2_with fail
       exact (unhide HQ) _ _ ⟨(by (repeat (with_reducible refine Fq.Kp.set ?_ (by decide) _)); with_reducible exact Fq.Kp.refl _ _), (Fq.set_at _ (by simp [hT]) _).trans (by rw [unhide HMO]; simp [Pg.more, *]), unhide HBC⟩
   · go_wp2_with fail
     exact (unhide HQ) _ _ ⟨(by (repeat (with_reducible refine Fq.Kp.set ?_ (by decide) _)); with_reducible exact Fq.Kp.refl _ _), (Fq.set_at _ (by simp [hT]) _).trans (by rw [unhide HMO]; simp [Pg.more, *]), unhide HBC⟩
 · go_wp2_with fail
   exact (unhide HQ) _ _ ⟨(by (repeat (with_reducible refine Fq.Kp.set ?_ (by decide) _)); with_reducible exact Fq.Kp.refl _ _), (Fq.set_at _ (by simp [hT]) _).trans (by rw [unhide HMO]; simp [Pg.more, *]), unhide HBC⟩
end
end Go.Proofs.Ytpfogjplnodacaa
namespace Go.Proofs.Ytpfogjplnodacaa
open Go.RowKit
set_option linter.unusedVariables false
section
variable {T : Array Value} {w : World} {Q : Exit → Act → World → Prop} {qa ad sa fa ra ia ea aa ta la : Option Addr} {ql qc tl tcap sl sc fl fc rl rc il ic el ec na ac nt tc ne lc bp bx : Nat} {calls i ck cv cf ik inn ek en fp rk rn : Int}
theorem ck_r12_4 (hF : Ck.Fm T calls ad tl tcap bp i bx 4) (hY : Pg.YB (.slice qa ql qc) [.int .i64 fp, .slice sa sl sc, .slice fa fl fc, .int .i64 rk, .int .i64 rn, .slice ra rl rc] [.int .i64 4, .int .i64 cv, .int .i64 cf, .int .i64 ik, .int .i64 inn, .slice ia il ic, .int .i64 ek, .int .i64 en, .slice ea el ec, .slice aa na ac, .slice ta nt tc, .slice la ne lc] bp bx w) {bi be mo : Bool} (hna : na ≤ 35184372088832) (hnt : nt ≤ 35184372088832) (hne : ne ≤ 35184372088832) (hix : ∀ V, Below w.heap.size w V → Calls Try.prog 14 #[.agg #[.int .i64 ik, .int .i64 inn, .slice ia il ic]] V fun r w' => r = .returned (.bool (!bi)) ∧ Below V.heap.size V w') (hex : ∀ V, Below w.heap.size w V → Calls Try.prog 14 #[.agg #[.int .i64 ek, .int .i64 en, .slice ea el ec]] V fun r w' => r = .returned (.bool (!be)) ∧ Below V.heap.size V w') (hmo : mo = Pg.more 4 cv cf na bi be nt ne)
  (hQ : ∀ T' w', (Fq.Kp 14 T T' ∧ T'[150]? = some (.bool mo) ∧ Below w.heap.size w w') → Q .normal ⟨T', []⟩ w') : (Fq.reg Try.f13 12).wp Try.prog Q ⟨T, []⟩ w := by
 obtain ⟨hT, s2, s3, s4, s5, s9, s10, s11⟩ := hF
 have x0 := hY.x 0 _ rfl
 have x1 := hY.x 1 _ rfl
 have x2 := hY.x 2 _ rfl
 have x3 := hY.x 3 _ rfl
 have x4 := hY.x 4 _ rfl
 have x5 := hY.x 5 _ rfl
 have x6 := hY.x 6 _ rfl
 have x7 := hY.x 7 _ rfl
 have x8 := hY.x 8 _ rfl
 have x9 := hY.x 9 _ rfl
 have x10 := hY.x 10 _ rfl
 have x11 := hY.x 11 _ rfl
 have f0 := hY.f 0 _ rfl
 have f1 := hY.f 1 _ rfl
 have f2 := hY.f 2 _ rfl
 have f3 := hY.f 3 _ rfl
 have f4 := hY.f 4 _ rfl
 have f5 := hY.f 5 _ rfl
 have p0 := hY.p0
 have HYC := hide hY
 have HBC := hide (Below.refl w.heap.size w)
 clear hY
 have a2 := fun h => Fq.el s2 h
 have d2 := Fq.gd s2
 have a3 := fun h => Fq.el s3 h
 have d3 := Fq.gd s3
 have a4 := fun h => Fq.el s4 h
 have d4 := Fq.gd s4
 have a5 := fun h => Fq.el s5 h
 have d5 := Fq.gd s5
 have a9 := fun h => Fq.el s9 h
 have d9 := Fq.gd s9
 have a10 := fun h => Fq.el s10 h
 have d10 := Fq.gd s10
 have a11 := fun h => Fq.el s11 h
 have d11 := Fq.gd s11
 have hu : undef = Value.tuple #[] := rfl
 have HQ := hide hQ
 clear hQ
 conv => arg 2; whnf
 have HIX := hide hix
 have HEX := hide hex
 have HMO := hide hmo
 clear hix hex hmo
 simp only [List.append_eq, List.cons_append, List.nil_append]
 rcases (show cf = 0 ∨ cf ≠ 0 by omega) with rfl | hcf
 · go_wp2_with fail
   with_reducible refine (Calls.mono ((unhide HIX) _ (unhide HBC)) ?_)
   rintro r wI ⟨rfl, hbC⟩
   have HY3 := hide ((unhide HYC).later hbC)
   clear x0 x1 x2 x3 x4 x5 x6 x7 x8 x9 x10 x11 f0 f1 f2 f3 f4 f5 p0 HYC
   have HYC := hide (unhide HY3)
   have HBC2 := hide ((unhide HBC).trans (hbC.mono (unhide HBC).size))
   clear HBC hbC HY3
   have HBC := hide (unhide HBC2)
   clear HBC2
   have x0 := (unhide HYC).x 0 _ rfl
   have x1 := (unhide HYC).x 1 _ rfl
   have x2 := (unhide HYC).x 2 _ rfl
   have x3 := (unhide HYC).x 3 _ rfl
   have x4 := (unhide HYC).x 4 _ rfl
   have x5 := (unhide HYC).x 5 _ rfl
   have x6 := (unhide HYC).x 6 _ rfl
   have x7 := (unhide HYC).x 7 _ rfl
   have x8 := (unhide HYC).x 8 _ rfl
   have x9 := (unhide HYC).x 9 _ rfl
   have x10 := (unhide HYC).x 10 _ rfl
   have x11 := (unhide HYC).x 11 _ rfl
   have f0 := (unhide HYC).f 0 _ rfl
   have f1 := (unhide HYC).f 1 _ rfl
   have f2 := (unhide HYC).f 2 _ rfl
   have f3 := (unhide HYC).f 3 _ rfl
   have f4 := (unhide HYC).f 4 _ rfl
   have f5 := (unhide HYC).f 5 _ rfl
   have p0 := (unhide HYC).p0
   cases bi
   · go_wp2_with fail
     with_reducible refine (Calls.mono ((unhide HEX) _ (unhide HBC)) ?_)
     rintro r wE ⟨rfl, hbC⟩
     have HY3 := hide ((unhide HYC).later hbC)
     clear x0 x1 x2 x3 x4 x5 x6 x7 x8 x9 x10 x11 f0 f1 f2 f3 f4 f5 p0 HYC
     have HYC := hide (unhide HY3)
     have HBC2 := hide ((unhide HBC).trans (hbC.mono (unhide HBC).size))
     clear HBC hbC HY3
     have HBC := hide (unhide HBC2)
     clear HBC2
     have x0 := (unhide HYC).x 0 _ rfl
     have x1 := (unhide HYC).x 1 _ rfl
     have x2 := (unhide HYC).x 2 _ rfl
     have x3 := (unhide HYC).x 3 _ rfl
     have x4 := (unhide HYC).x 4 _ rfl
     have x5 := (unhide HYC).x 5 _ rfl
     have x6 := (unhide HYC).x 6 _ rfl
     have x7 := (unhide HYC).x 7 _ rfl
     have x8 := (unhide HYC).x 8 _ rfl
     have x9 := (unhide HYC).x 9 _ rfl
     have x10 := (unhide HYC).x 10 _ rfl
     have x11 := (unhide HYC).x 11 _ rfl
     have f0 := (unhide HYC).f 0 _ rfl
     have f1 := (unhide HYC).f 1 _ rfl
     have f2 := (unhide HYC).f 2 _ rfl
     have f3 := (unhide HYC).f 3 _ rfl
     have f4 := (unhide HYC).f 4 _ rfl
     have f5 := (unhide HYC).f 5 _ rfl
     have p0 := (unhide HYC).p0
     cases be
     · rcases (show na = 0 ∨ 0 < na by omega) with rfl | hna
       · rcases (show nt = 0 ∨ 0 < nt by omega) with rfl | hnt
         · rcases (show ne = 0 ∨ 0 < ne by omega) with rfl | hne
           · go_wp2_with fail
             exact (unhide HQ) _ _ ⟨(by (repeat (with_reducible refine Fq.Kp.set ?_ (by decide) _)); with_reducible exact Fq.Kp.refl _ _), (Fq.set_at _ (by simp [hT]) _).trans (by rw [unhide HMO]; simp [Pg.more, *]), unhide HBC⟩
           · have bne : (0 : Int) < (ne : Int) := by omega
             go_wp2_with fail
             exact (unhide HQ) _ _ ⟨(by (repeat (with_reducible refine Fq.Kp.set ?_ (by decide) _)); with_reducible exact Fq.Kp.refl _ _), (Fq.set_at _ (by simp [hT]) _).trans (by rw [unhide HMO]; simp [Pg.more, *]), unhide HBC⟩
         · have bnt : (0 : Int) < (nt : Int) := by omega
           go_wp2_with fail
           exact (unhide HQ) _ _ ⟨(by (repeat (with_reducible refine Fq.Kp.set ?_ (by decide) _)); with_reducible exact Fq.Kp.refl _ _), (Fq.set_at _ (by simp [hT]) _).trans (by rw [unhide HMO]; simp [Pg.more, *]), unhide HBC⟩
       · have bna : (0 : Int) < (na : Int) := by omega
         go_wp2_with fail
         exact (unhide HQ) _ _ ⟨(by (repeat (with_reducible refine Fq.Kp.set ?_ (by decide) _)); with_reducible exact Fq.Kp.refl _ _), (Fq.set_at _ (by simp [hT]) _).trans (by rw [unhide HMO]; simp [Pg.more, *]), unhide HBC⟩
     · go_wp2_with fail
       exact (unhide HQ) _ _ ⟨(by (repeat (with_reducible refine Fq.Kp.set ?_ (by decide) _)); with_reducible exact Fq.Kp.refl _ _), (Fq.set_at _ (by simp [hT]) _).trans (by rw [unhide HMO]; simp [Pg.more, *]), unhide HBC⟩
   · go_wp2_with fail
     exact (unhide HQ) _ _ ⟨(by (repeat (with_reducible refine Fq.Kp.set ?_ (by decide) _)); with_reducible exact Fq.Kp.refl _ _), (Fq.set_at _ (by simp [hT]) _).trans (by rw [unhide HMO]; simp [Pg.more, *]), unhide HBC⟩
 · have bcf : (cf != 0) = true := by simpa using hcf
   go_wp2_with fail
   exact (unhide HQ) _ _ ⟨(by (repeat (with_reducible refine Fq.Kp.set ?_ (by decide) _)); with_reducible exact Fq.Kp.refl _ _), (Fq.set_at _ (by simp [hT]) _).trans (by rw [unhide HMO]; simp [Pg.more, *]), unhide HBC⟩
end
end Go.Proofs.Ytpfogjplnodacaa
namespace Go.Proofs.Ytpfogjplnodacaa
open Go.RowKit
set_option linter.unusedVariables false
section
variable {T : Array Value} {w : World} {Q : Exit → Act → World → Prop} {qa ad sa fa ra ia ea aa ta la : Option Addr} {ql qc tl tcap sl sc fl fc rl rc il ic el ec na ac nt tc ne lc bp bx : Nat} {calls i ck cv cf ik inn ek en fp rk rn : Int}
theorem ck_r12_5 (hF : Ck.Fm T calls ad tl tcap bp i bx 5) (hY : Pg.YB (.slice qa ql qc) [.int .i64 fp, .slice sa sl sc, .slice fa fl fc, .int .i64 rk, .int .i64 rn, .slice ra rl rc] [.int .i64 5, .int .i64 cv, .int .i64 cf, .int .i64 ik, .int .i64 inn, .slice ia il ic, .int .i64 ek, .int .i64 en, .slice ea el ec, .slice aa na ac, .slice ta nt tc, .slice la ne lc] bp bx w) {bi be mo : Bool} (hna : na ≤ 35184372088832) (hnt : nt ≤ 35184372088832) (hne : ne ≤ 35184372088832) (hix : ∀ V, Below w.heap.size w V → Calls Try.prog 14 #[.agg #[.int .i64 ik, .int .i64 inn, .slice ia il ic]] V fun r w' => r = .returned (.bool (!bi)) ∧ Below V.heap.size V w') (hex : ∀ V, Below w.heap.size w V → Calls Try.prog 14 #[.agg #[.int .i64 ek, .int .i64 en, .slice ea el ec]] V fun r w' => r = .returned (.bool (!be)) ∧ Below V.heap.size V w') (hmo : mo = Pg.more 5 cv cf na bi be nt ne)
  (hQ : ∀ T' w', (Fq.Kp 14 T T' ∧ T'[150]? = some (.bool mo) ∧ Below w.heap.size w w') → Q .normal ⟨T', []⟩ w') : (Fq.reg Try.f13 12).wp Try.prog Q ⟨T, []⟩ w := by
 obtain ⟨hT, s2, s3, s4, s5, s9, s10, s11⟩ := hF
 have x0 := hY.x 0 _ rfl
 have x1 := hY.x 1 _ rfl
 have x2 := hY.x 2 _ rfl
 have x3 := hY.x 3 _ rfl
 have x4 := hY.x 4 _ rfl
 have x5 := hY.x 5 _ rfl
 have x6 := hY.x 6 _ rfl
 have x7 := hY.x 7 _ rfl
 have x8 := hY.x 8 _ rfl
 have x9 := hY.x 9 _ rfl
 have x10 := hY.x 10 _ rfl
 have x11 := hY.x 11 _ rfl
 have f0 := hY.f 0 _ rfl
 have f1 := hY.f 1 _ rfl
 have f2 := hY.f 2 _ rfl
 have f3 := hY.f 3 _ rfl
 have f4 := hY.f 4 _ rfl
 have f5 := hY.f 5 _ rfl
 have p0 := hY.p0
 have HYC := hide hY
 have HBC := hide (Below.refl w.heap.size w)
 clear hY
 have a2 := fun h => Fq.el s2 h
 have d2 := Fq.gd s2
 have a3 := fun h => Fq.el s3 h
 have d3 := Fq.gd s3
 have a4 := fun h => Fq.el s4 h
 have d4 := Fq.gd s4
 have a5 := fun h => Fq.el s5 h
 have d5 := Fq.gd s5
 have a9 := fun h => Fq.el s9 h
 have d9 := Fq.gd s9
 have a10 := fun h => Fq.el s10 h
 have d10 := Fq.gd s10
 have a11 := fun h => Fq.el s11 h
 have d11 := Fq.gd s11
 have hu : undef = Value.tuple #[] := rfl
 have HQ := hide hQ
 clear hQ
 conv => arg 2; whnf
 have HIX := hide hix
 have HEX := hide hex
 have HMO := hide hmo
 clear hix hex hmo
 simp only [List.append_eq, List.cons_append, List.nil_append]
 rcases (show cv = 0 ∨ cv ≠ 0 by omega) with rfl | hcv
 · rcases (show cf = 0 ∨ cf ≠ 0 by omega) with rfl | hcf
   · go_wp2_with fail
     with_reducible refine (Calls.mono ((unhide HIX) _ (unhide HBC)) ?_)
     rintro r wI ⟨rfl, hbC⟩
     have HY3 := hide ((unhide HYC).later hbC)
     clear x0 x1 x2 x3 x4 x5 x6 x7 x8 x9 x10 x11 f0 f1 f2 f3 f4 f5 p0 HYC
     have HYC := hide (unhide HY3)
     have HBC2 := hide ((unhide HBC).trans (hbC.mono (unhide HBC).size))
     clear HBC hbC HY3
     have HBC := hide (unhide HBC2)
     clear HBC2
     have x0 := (unhide HYC).x 0 _ rfl
     have x1 := (unhide HYC).x 1 _ rfl
     have x2 := (unhide HYC).x 2 _ rfl
     have x3 := (unhide HYC).x 3 _ rfl
     have x4 := (unhide HYC).x 4 _ rfl
     have x5 := (unhide HYC).x 5 _ rfl
     have x6 := (unhide HYC).x 6 _ rfl
     have x7 := (unhide HYC).x 7 _ rfl
     have x8 := (unhide HYC).x 8 _ rfl
     have x9 := (unhide HYC).x 9 _ rfl
     have x10 := (unhide HYC).x 10 _ rfl
     have x11 := (unhide HYC).x 11 _ rfl
     have f0 := (unhide HYC).f 0 _ rfl
     have f1 := (unhide HYC).f 1 _ rfl
     have f2 := (unhide HYC).f 2 _ rfl
     have f3 := (unhide HYC).f 3 _ rfl
     have f4 := (unhide HYC).f 4 _ rfl
     have f5 := (unhide HYC).f 5 _ rfl
     have p0 := (unhide HYC).p0
     cases bi
     · rcases (show na = 0 ∨ 0 < na by omega) with rfl | hna
       · rcases (show nt = 0 ∨ 0 < nt by omega) with rfl | hnt
         · rcases (show ne = 0 ∨ 0 < ne by omega) with rfl | hne
           · go_wp2_with fail
             exact (unhide HQ) _ _ ⟨(by (repeat (with_reducible refine Fq.Kp.set ?_ (by decide) _)); with_reducible exact Fq.Kp.refl _ _), (Fq.set_at _ (by simp [hT]) _).trans (by rw [unhide HMO]; simp [Pg.more, *]), unhide HBC⟩
           · have bne : (0 : Int) < (ne : Int) := by omega
             go_wp2_with fail
             exact (unhide HQ) _ _ ⟨(by (repeat (with_reducible refine Fq.Kp.set ?_ (by decide) _)); with_reducible exact Fq.Kp.refl _ _), (Fq.set_at _ (by simp [hT]) _).trans (by rw [unhide HMO]; simp [Pg.more, *]), unhide HBC⟩
         · have bnt : (0 : Int) < (nt : Int) := by omega
           go_wp2_with fail
           exact (unhide HQ) _ _ ⟨(by (repeat (with_reducible refine Fq.Kp.set ?_ (by decide) _)); with_reducible exact Fq.Kp.refl _ _), (Fq.set_at _ (by simp [hT]) _).trans (by rw [unhide HMO]; simp [Pg.more, *]), unhide HBC⟩
       · have bna : (0 : Int) < (na : Int) := by omega
         go_wp2_with fail
         exact (unhide HQ) _ _ ⟨(by (repeat (with_reducible refine Fq.Kp.set ?_ (by decide) _)); with_reducible exact Fq.Kp.refl _ _), (Fq.set_at _ (by simp [hT]) _).trans (by rw [unhide HMO]; simp [Pg.more, *]), unhide HBC⟩
     · go_wp2_with fail
       exact (unhide HQ) _ _ ⟨(by (repeat (with_reducible refine Fq.Kp.set ?_ (by decide) _)); with_reducible exact Fq.Kp.refl _ _), (Fq.set_at _ (by simp [hT]) _).trans (by rw [unhide HMO]; simp [Pg.more, *]), unhide HBC⟩
   · have bcf : (cf != 0) = true := by simpa using hcf
     go_wp2_with fail
     exact (unhide HQ) _ _ ⟨(by (repeat (with_reducible refine Fq.Kp.set ?_ (by decide) _)); with_reducible exact Fq.Kp.refl _ _), (Fq.set_at _ (by simp [hT]) _).trans (by rw [unhide HMO]; simp [Pg.more, *]), unhide HBC⟩
 · have bcv : (cv != 0) = true := by simpa using hcv
   go_wp2_with fail
   exact (unhide HQ) _ _ ⟨(by (repeat (with_reducible refine Fq.Kp.set ?_ (by decide) _)); with_reducible exact Fq.Kp.refl _ _), (Fq.set_at _ (by simp [hT]) _).trans (by rw [unhide HMO]; simp [Pg.more, *]), unhide HBC⟩
end
end Go.Proofs.Ytpfogjplnodacaa
namespace Go.Proofs.Ytpfogjplnodacaa
open Go.RowKit
set_option linter.unusedVariables false
section
variable {T : Array Value} {w : World} {Q : Exit → Act → World → Prop} {qa ad sa fa ra ia ea aa ta la : Option Addr} {ql qc tl tcap sl sc fl fc rl rc il ic el ec na ac nt tc ne lc bp bx : Nat} {calls i ck cv cf ik inn ek en fp rk rn : Int}
theorem ck_r12_6 (hF : Ck.Fm T calls ad tl tcap bp i bx 6) (hY : Pg.YB (.slice qa ql qc) [.int .i64 fp, .slice sa sl sc, .slice fa fl fc, .int .i64 rk, .int .i64 rn, .slice ra rl rc] [.int .i64 6, .int .i64 cv, .int .i64 cf, .int .i64 ik, .int .i64 inn, .slice ia il ic, .int .i64 ek, .int .i64 en, .slice ea el ec, .slice aa na ac, .slice ta nt tc, .slice la ne lc] bp bx w) {bi be mo : Bool} (hna : na ≤ 35184372088832) (hnt : nt ≤ 35184372088832) (hne : ne ≤ 35184372088832) (hix : ∀ V, Below w.heap.size w V → Calls Try.prog 14 #[.agg #[.int .i64 ik, .int .i64 inn, .slice ia il ic]] V fun r w' => r = .returned (.bool (!bi)) ∧ Below V.heap.size V w') (hex : ∀ V, Below w.heap.size w V → Calls Try.prog 14 #[.agg #[.int .i64 ek, .int .i64 en, .slice ea el ec]] V fun r w' => r = .returned (.bool (!be)) ∧ Below V.heap.size V w') (hmo : mo = Pg.more 6 cv cf na bi be nt ne)
  (hQ : ∀ T' w', (Fq.Kp 14 T T' ∧ T'[150]? = some (.bool mo) ∧ Below w.heap.size w w') → Q .normal ⟨T', []⟩ w') : (Fq.reg Try.f13 12).wp Try.prog Q ⟨T, []⟩ w := by
 obtain ⟨hT, s2, s3, s4, s5, s9, s10, s11⟩ := hF
 have x0 := hY.x 0 _ rfl
 have x1 := hY.x 1 _ rfl
 have x2 := hY.x 2 _ rfl
 have x3 := hY.x 3 _ rfl
 have x4 := hY.x 4 _ rfl
 have x5 := hY.x 5 _ rfl
 have x6 := hY.x 6 _ rfl
 have x7 := hY.x 7 _ rfl
 have x8 := hY.x 8 _ rfl
 have x9 := hY.x 9 _ rfl
 have x10 := hY.x 10 _ rfl
 have x11 := hY.x 11 _ rfl
 have f0 := hY.f 0 _ rfl
 have f1 := hY.f 1 _ rfl
 have f2 := hY.f 2 _ rfl
 have f3 := hY.f 3 _ rfl
 have f4 := hY.f 4 _ rfl
 have f5 := hY.f 5 _ rfl
 have p0 := hY.p0
 have HYC := hide hY
 have HBC := hide (Below.refl w.heap.size w)
 clear hY
 have a2 := fun h => Fq.el s2 h
 have d2 := Fq.gd s2
 have a3 := fun h => Fq.el s3 h
 have d3 := Fq.gd s3
 have a4 := fun h => Fq.el s4 h
 have d4 := Fq.gd s4
 have a5 := fun h => Fq.el s5 h
 have d5 := Fq.gd s5
 have a9 := fun h => Fq.el s9 h
 have d9 := Fq.gd s9
 have a10 := fun h => Fq.el s10 h
 have d10 := Fq.gd s10
 have a11 := fun h => Fq.el s11 h
 have d11 := Fq.gd s11
 have hu : undef = Value.tuple #[] := rfl
 have HQ := hide hQ
 clear hQ
 conv => arg 2; whnf
 have HIX := hide hix
 have HEX := hide hex
 have HMO := hide hmo
 clear hix hex hmo
 simp only [List.append_eq, List.cons_append, List.nil_append]
 rcases (show cv = 0 ∨ cv ≠ 0 by omega) with rfl | hcv
 · rcases (show cf = 0 ∨ cf ≠ 0 by omega) with rfl | hcf
   · go_wp2_with fail
     with_reducible refine (Calls.mono ((unhide HIX) _ (unhide HBC)) ?_)
     rintro r wI ⟨rfl, hbC⟩
     have HY3 := hide ((unhide HYC).later hbC)
     clear x0 x1 x2 x3 x4 x5 x6 x7 x8 x9 x10 x11 f0 f1 f2 f3 f4 f5 p0 HYC
     have HYC := hide (unhide HY3)
     have HBC2 := hide ((unhide HBC).trans (hbC.mono (unhide HBC).size))
     clear HBC hbC HY3
     have HBC := hide (unhide HBC2)
     clear HBC2
     have x0 := (unhide HYC).x 0 _ rfl
     have x1 := (unhide HYC).x 1 _ rfl
     have x2 := (unhide HYC).x 2 _ rfl
     have x3 := (unhide HYC).x 3 _ rfl
     have x4 := (unhide HYC).x 4 _ rfl
     have x5 := (unhide HYC).x 5 _ rfl
     have x6 := (unhide HYC).x 6 _ rfl
     have x7 := (unhide HYC).x 7 _ rfl
     have x8 := (unhide HYC).x 8 _ rfl
     have x9 := (unhide HYC).x 9 _ rfl
     have x10 := (unhide HYC).x 10 _ rfl
     have x11 := (unhide HYC).x 11 _ rfl
     have f0 := (unhide HYC).f 0 _ rfl
     have f1 := (unhide HYC).f 1 _ rfl
     have f2 := (unhide HYC).f 2 _ rfl
     have f3 := (unhide HYC).f 3 _ rfl
     have f4 := (unhide HYC).f 4 _ rfl
     have f5 := (unhide HYC).f 5 _ rfl
     have p0 := (unhide HYC).p0
     cases bi
     · rcases (show na = 0 ∨ 0 < na by omega) with rfl | hna
       · go_wp2_with fail
         exact (unhide HQ) _ _ ⟨(by (repeat (with_reducible refine Fq.Kp.set ?_ (by decide) _)); with_reducible exact Fq.Kp.refl _ _), (Fq.set_at _ (by simp [hT]) _).trans (by rw [unhide HMO]; simp [Pg.more, *]), unhide HBC⟩
       · have bna : (0 : Int) < (na : Int) := by omega
         go_wp2_with fail
         exact (unhide HQ) _ _ ⟨(by (repeat (with_reducible refine Fq.Kp.set ?_ (by decide) _)); with_reducible exact Fq.Kp.refl _ _), (Fq.set_at _ (by simp [hT]) _).trans (by rw [unhide HMO]; simp [Pg.more, *]), unhide HBC⟩
     · go_wp2_with fail
       exact (unhide HQ) _ _ ⟨(by (repeat (with_reducible refine Fq.Kp.set ?_ (by decide) _)); with_reducible exact Fq.Kp.refl _ _), (Fq.set_at _ (by simp [hT]) _).trans (by rw [unhide HMO]; simp [Pg.more, *]), unhide HBC⟩
   · have bcf : (cf != 0) = true := by simpa using hcf
     go_wp2_with fail
     exact (unhide HQ) _ _ ⟨(by (repeat (with_reducible refine Fq.Kp.set ?_ (by decide) _)); with_reducible exact Fq.Kp.refl _ _), (Fq.set_at _ (by simp [hT]) _).trans (by rw [unhide HMO]; simp [Pg.more, *]), unhide HBC⟩
 · have bcv : (cv != 0) = true := by simpa using hcv
   go_wp2_with fail
   exact (unhide HQ) _ _ ⟨(by (repeat (with_reducible refine Fq.Kp.set ?_ (by decide) _)); with_reducible exact Fq.Kp.refl _ _), (Fq.set_at _ (by simp [hT]) _).trans (by rw [unhide HMO]; simp [Pg.more, *]), unhide HBC⟩
theorem ck_r12_7 (hF : Ck.Fm T calls ad tl tcap bp i bx 7) (hY : Pg.YB (.slice qa ql qc) [.int .i64 fp, .slice sa sl sc, .slice fa fl fc, .int .i64 rk, .int .i64 rn, .slice ra rl rc] [.int .i64 7, .int .i64 cv, .int .i64 cf, .int .i64 ik, .int .i64 inn, .slice ia il ic, .int .i64 ek, .int .i64 en, .slice ea el ec, .slice aa na ac, .slice ta nt tc, .slice la ne lc] bp bx w) {bi be mo : Bool} (hna : na ≤ 35184372088832) (hnt : nt ≤ 35184372088832) (hne : ne ≤ 35184372088832) (hix : ∀ V, Below w.heap.size w V → Calls Try.prog 14 #[.agg #[.int .i64 ik, .int .i64 inn, .slice ia il ic]] V fun r w' => r = .returned (.bool (!bi)) ∧ Below V.heap.size V w') (hex : ∀ V, Below w.heap.size w V → Calls Try.prog 14 #[.agg #[.int .i64 ek, .int .i64 en, .slice ea el ec]] V fun r w' => r = .returned (.bool (!be)) ∧ Below V.heap.size V w') (hmo : mo = Pg.more 7 cv cf na bi be nt ne)
  (hQ : ∀ T' w', (Fq.Kp 14 T T' ∧ T'[150]? = some (.bool mo) ∧ Below w.heap.size w w') → Q .normal ⟨T', []⟩ w') : (Fq.reg Try.f13 12).wp Try.prog Q ⟨T, []⟩ w := by
 obtain ⟨hT, s2, s3, s4, s5, s9, s10, s11⟩ := hF
 have x0 := hY.x 0 _ rfl
 have x1 := hY.x 1 _ rfl
 have x2 := hY.x 2 _ rfl
 have x3 := hY.x 3 _ rfl
 have x4 := hY.x 4 _ rfl
 have x5 := hY.x 5 _ rfl
 have x6 := hY.x 6 _ rfl
 have x7 := hY.x 7 _ rfl
 have x8 := hY.x 8 _ rfl
 have x9 := hY.x 9 _ rfl
 have x10 := hY.x 10 _ rfl
 have x11 := hY.x 11 _ rfl
 have f0 := hY.f 0 _ rfl
 have f1 := hY.f 1 _ rfl
 have f2 := hY.f 2 _ rfl
 have f3 := hY.f 3 _ rfl
 have f4 := hY.f 4 _ rfl
 have f5 := hY.f 5 _ rfl
 have p0 := hY.p0
 have HYC := hide hY
 have HBC := hide (Below.refl w.heap.size w)
 clear hY
 have a2 := fun h => Fq.el s2 h
 have d2 := Fq.gd s2
 have a3 := fun h => Fq.el s3 h
 have d3 := Fq.gd s3
 have a4 := fun h => Fq.el s4 h
 have d4 := Fq.gd s4
 have a5 := fun h => Fq.el s5 h
 have d5 := Fq.gd s5
 have a9 := fun h => Fq.el s9 h
 have d9 := Fq.gd s9
 have a10 := fun h => Fq.el s10 h
 have d10 := Fq.gd s10
 have a11 := fun h => Fq.el s11 h
 have d11 := Fq.gd s11
 have hu : undef = Value.tuple #[] := rfl
 have HQ := hide hQ
 clear hQ
 conv => arg 2; whnf
 have HIX := hide hix
 have HEX := hide hex
 have HMO := hide hmo
 clear hix hex hmo
 simp only [List.append_eq, List.cons_append, List.nil_append]
 rcases (show cv = 0 ∨ cv ≠ 0 by omega) with rfl | hcv
 · rcases (show cf = 0 ∨ cf ≠ 0 by omega) with rfl | hcf
   · go_wp2_with fail
     with_reducible refine (Calls.mono ((unhide HIX) _ (unhide HBC)) ?_)
     rintro r wI ⟨rfl, hbC⟩
     have HY3 := hide ((unhide HYC).later hbC)
     clear x0 x1 x2 x3 x4 x5 x6 x7 x8 x9 x10 x11 f0 f1 f2 f3 f4 f5 p0 HYC
     have HYC := hide (unhide HY3)
     have HBC2 := hide ((unhide HBC).trans (hbC.mono (unhide HBC).size))
     clear HBC hbC HY3
     have HBC := hide (unhide HBC2)
     clear HBC2
     have x0 := (unhide HYC).x 0 _ rfl
     have x1 := (unhide HYC).x 1 _ rfl
     have x2 := (unhide HYC).x 2 _ rfl
     have x3 := (unhide HYC).x 3 _ rfl
     have x4 := (unhide HYC).x 4 _ rfl
     have x5 := (unhide HYC).x 5 _ rfl
     have x6 := (unhide HYC).x 6 _ rfl
     have x7 := (unhide HYC).x 7 _ rfl
     have x8 := (unhide HYC).x 8 _ rfl
     have x9 := (unhide HYC).x 9 _ rfl
     have x10 := (unhide HYC).x 10 _ rfl
     have x11 := (unhide HYC).x 11 _ rfl
     have f0 := (unhide HYC).f 0 _ rfl
     have f1 := (unhide HYC).f 1 _ rfl
     have f2 := (unhide HYC).f 2 _ rfl
     have f3 := (unhide HYC).f 3 _ rfl
     have f4 := (unhide HYC).f 4 _ rfl
     have f5 := (unhide HYC).f 5 _ rfl
     have p0 := (unhide HYC).p0
     cases bi
     · rcases (show na = 0 ∨ 0 < na by omega) with rfl | hna
       · rcases (show ne = 0 ∨ 0 < ne by omega) with rfl | hne
         · go_wp2_with fail
           exact (unhide HQ) _ _ ⟨(by (repeat (with_reducible refine Fq.Kp.set ?_ (by decide) _)); with_reducible exact Fq.Kp.refl _ _), (Fq.set_at _ (by simp [hT]) _).trans (by rw [unhide HMO]; simp [Pg.more, *]), unhide HBC⟩
         · have bne : (0 : Int) < (ne : Int) := by omega
           go_wp2_with fail
           exact (unhide HQ) _ _ ⟨(by (repeat (with_reducible refine Fq.Kp.set ?_ (by decide) _)); with_reducible exact Fq.Kp.refl _ _), (Fq.set_at _ (by simp [hT]) _).trans (by rw [unhide HMO]; simp [Pg.more, *]), unhide HBC⟩
       · have bna : (0 : Int) < (na : Int) := by omega
         go_wp2_with fail
         exact (unhide HQ) _ _ ⟨(by (repeat (with_reducible refine Fq.Kp.set ?_ (by decide) _)); with_reducible exact Fq.Kp.refl _ _), (Fq.set_at _ (by simp [hT]) _).trans (by rw [unhide HMO]; simp [Pg.more, *]), unhide HBC⟩
     · go_wp2_with fail
       exact (unhide HQ) _ _ ⟨(by (repeat (with_reducible refine Fq.Kp.set ?_ (by decide) _)); with_reducible exact Fq.Kp.refl _ _), (Fq.set_at _ (by simp [hT]) _).trans (by rw [unhide HMO]; simp [Pg.more, *]), unhide HBC⟩
   · have bcf : (cf != 0) = true := by simpa using hcf
     go_wp2_with fail
     exact (unhide HQ) _ _ ⟨(by (repeat (with_reducible refine Fq.Kp.set ?_ (by decide) _)); with_reducible exact Fq.Kp.refl _ _), (Fq.set_at _ (by simp [hT]) _).trans (by rw [unhide HMO]; simp [Pg.more, *]), unhide HBC⟩
 · have bcv : (cv != 0) = true := by simpa using hcv
   go_wp2_with fail
   exact (unhide HQ) _ _ ⟨(by (repeat (with_reducible refine Fq.Kp.set ?_ (by decide) _)); with_reducible exact Fq.Kp.refl _ _), (Fq.set_at _ (by simp [hT]) _).trans (by rw [unhide HMO]; simp [Pg.more, *]), unhide HBC⟩
end
end Go.Proofs.Ytpfogjplnodacaa
namespace Go.Proofs.Ytpfogjplnodacaa
open Go.RowKit
set_option linter.unusedVariables false
section
variable {T : Array Value} {w : World} {Q : Exit → Act → World → Prop} {qa ad sa fa ra ia ea aa ta la : Option Addr} {ql qc tl tcap sl sc fl fc rl rc il ic el ec na ac nt tc ne lc bp bx : Nat} {calls i ck cv cf ik inn ek en fp rk rn : Int}
theorem ck_r12 (hF : Ck.Fm T calls ad tl tcap bp i bx ck) (hY : Pg.YB (.slice qa ql qc) [.int .i64 fp, .slice sa sl sc, .slice fa fl fc, .int .i64 rk, .int .i64 rn, .slice ra rl rc] [.int .i64 ck, .int .i64 cv, .int .i64 cf, .int .i64 ik, .int .i64 inn, .slice ia il ic, .int .i64 ek, .int .i64 en, .slice ea el ec, .slice aa na ac, .slice ta nt tc, .slice la ne lc] bp bx w) {bi be mo : Bool} (hna : na ≤ 35184372088832) (hnt : nt ≤ 35184372088832) (hne : ne ≤ 35184372088832) (hix : ∀ V, Below w.heap.size w V → Calls Try.prog 14 #[.agg #[.int .i64 ik, .int .i64 inn, .slice ia il ic]] V fun r w' => r = .returned (.bool (!bi)) ∧ Below V.heap.size V w') (hex : ∀ V, Below w.heap.size w V → Calls Try.prog 14 #[.agg #[.int .i64 ek, .int .i64 en, .slice ea el ec]] V fun r w' => r = .returned (.bool (!be)) ∧ Below V.heap.size V w') (hk : 1 ≤ ck ∧ ck ≤ 7) (hmo : mo = Pg.more ck cv cf na bi be nt ne)
  (hQ : ∀ T' w', (Fq.Kp 14 T T' ∧ T'[150]? = some (.bool mo) ∧ Below w.heap.size w w') → Q .normal ⟨T', []⟩ w') : (Fq.reg Try.f13 12).wp Try.prog Q ⟨T, []⟩ w := by
 rcases (show ck = 1 ∨ ck = 2 ∨ ck = 3 ∨ ck = 4 ∨ ck = 5 ∨ ck = 6 ∨ ck = 7 by omega) with rfl | rfl | rfl | rfl | rfl | rfl | rfl
 · exact ck_r12_1 hF hY hna hnt hne hix hex hmo hQ
 · exact ck_r12_2 hF hY hna hnt hne hix hex hmo hQ
 · exact ck_r12_3 hF hY hna hnt hne hix hex hmo hQ
 · exact ck_r12_4 hF hY hna hnt hne hix hex hmo hQ
 · exact ck_r12_5 hF hY hna hnt hne hix hex hmo hQ
 · exact ck_r12_6 hF hY hna hnt hne hix hex hmo hQ
 · exact ck_r12_7 hF hY hna hnt hne hix hex hmo hQ
end
end Go.Proofs.Ytpfogjplnodacaa
namespace Go.Proofs.Ytpfogjplnodacaa
open Go.RowKit
set_option linter.unusedVariables false
section
variable {T : Array Value} {w : World} {Q : Exit → Act → World → Prop} {qa ad sa fa ra ia ea aa ta la : Option Addr} {ql qc tl tcap sl sc fl fc rl rc il ic el ec na ac nt tc ne lc bp bx : Nat} {calls i ck cv cf ik inn ek en fp rk rn : Int}
theorem ck_r14 (hF : Ck.Fm T calls ad tl tcap bp i bx ck) (hY : Pg.YB (.slice qa ql qc) [.int .i64 fp, .slice sa sl sc, .slice fa fl fc, .int .i64 rk, .int .i64 rn, .slice ra rl rc] [.int .i64 ck, .int .i64 cv, .int .i64 cf, .int .i64 ik, .int .i64 inn, .slice ia il ic, .int .i64 ek, .int .i64 en, .slice ea el ec, .slice aa na ac, .slice ta nt tc, .slice la ne lc] bp bx w) {pf : Int} {VE : Bool} (hna : na ≤ 35184372088832) (hqf : ql ≤ 35184372088832) (hpa : ck = 3 → ∃ (k b o : Nat) (pr : Int), cf = k ∧ k < ql ∧ qa = some ⟨b, o, none⟩ ∧ w.cell? ⟨b, o + k * 6, none⟩ = some (.int .i64 pr) ∧ pf = pr) (hVE : VE = (decide (ck = 3) && !decide ((na : Int) = pf)))
  (hQ : ∀ T' w', (Fq.Kp 14 T T' ∧ T'[165]? = some (.bool VE) ∧ Below w.heap.size w w') → Q .normal ⟨T', []⟩ w') : (Fq.reg Try.f13 14).wp Try.prog Q ⟨T, []⟩ w := by
 obtain ⟨hT, s2, s3, s4, s5, s9, s10, s11⟩ := hF
 have x0 := hY.x 0 _ rfl
 have x1 := hY.x 1 _ rfl
 have x2 := hY.x 2 _ rfl
 have x3 := hY.x 3 _ rfl
 have x4 := hY.x 4 _ rfl
 have x5 := hY.x 5 _ rfl
 have x6 := hY.x 6 _ rfl
 have x7 := hY.x 7 _ rfl
 have x8 := hY.x 8 _ rfl
 have x9 := hY.x 9 _ rfl
 have x10 := hY.x 10 _ rfl
 have x11 := hY.x 11 _ rfl
 have f0 := hY.f 0 _ rfl
 have f1 := hY.f 1 _ rfl
 have f2 := hY.f 2 _ rfl
 have f3 := hY.f 3 _ rfl
 have f4 := hY.f 4 _ rfl
 have f5 := hY.f 5 _ rfl
 have p0 := hY.p0
 clear hY
 have a2 := fun h => Fq.el s2 h
 have d2 := Fq.gd s2
 have a3 := fun h => Fq.el s3 h
 have d3 := Fq.gd s3
 have a4 := fun h => Fq.el s4 h
 have d4 := Fq.gd s4
 have a5 := fun h => Fq.el s5 h
 have d5 := Fq.gd s5
 have a9 := fun h => Fq.el s9 h
 have d9 := Fq.gd s9
 have a10 := fun h => Fq.el s10 h
 have d10 := Fq.gd s10
 have a11 := fun h => Fq.el s11 h
 have d11 := Fq.gd s11
 have hu : undef = Value.tuple #[] := rfl
 have HQ := hide hQ
 clear hQ
 conv => arg 2; whnf
 by_cases h3 : ck = 3
 · obtain ⟨t, ht⟩ : ∃ t : Nat → Value, t = fun i => T.getD i (.tuple #[]) := ⟨_, rfl⟩
   have hTl : T = #[t 0, t 1, t 2, t 3, t 4, t 5, t 6, t 7, t 8, t 9, t 10, t 11, t 12, t 13, t 14, t 15, t 16, t 17, t 18, t 19, t 20, t 21, t 22, t 23, t 24, t 25, t 26, t 27, t 28, t 29, t 30, t 31, t 32, t 33, t 34, t 35, t 36, t 37, t 38, t 39, t 40, t 41, t 42, t 43, t 44, t 45, t 46, t 47, t 48, t 49, t 50, t 51, t 52, t 53, t 54, t 55, t 56, t 57, t 58, t 59, t 60, t 61, t 62, t 63, t 64, t 65, t 66, t 67, t 68, t 69, t 70, t 71, t 72, t 73, t 74, t 75, t 76, t 77, t 78, t 79, t 80, t 81, t 82, t 83, t 84, t 85, t 86, t 87, t 88, t 89, t 90, t 91, t 92, t 93, t 94, t 95, t 96, t 97, t 98, t 99, t 100, t 101, t 102, t 103, t 104, t 105, t 106, t 107, t 108, t 109, t 110, t 111, t 112, t 113, t 114, t 115, t 116, t 117, t 118, t 119, t 120, t 121, t 122, t 123, t 124, t 125, t 126, t 127, t 128, t 129, t 130, t 131, t 132, t 133, t 134, t 135, t 136, t 137, t 138, t 139, t 140, t 141, t 142, t 143, t 144, t 145, t 146, t 147, t 148, t 149, t 150, t 151, t 152, t 153, t 154, t 155, t 156, t 157, t 158, t 159, t 160, t 161, t 162, t 163, t 164, t 165, t 166, t 167, t 168, t 169, t 170, t 171, t 172, t 173, t 174, t 175, t 176, t 177, t 178, t 179, t 180, t 181, t 182, t 183, t 184, t 185, t 186, t 187, t 188, t 189, t 190, t 191, t 192, t 193, t 194, t 195, t 196, t 197, t 198, t 199, t 200, t 201, t 202, t 203, t 204, t 205, t 206, t 207, t 208, t 209, t 210, t 211, t 212, t 213, t 214, t 215, t 216, t 217, t 218, t 219, t 220, t 221, t 222, t 223, t 224, t 225] := by rw [ht]; exact Fq.ls_is hT
   have e2 : t 2 = _ := (congrFun ht 2).trans d2
   have e3 : t 3 = _ := (congrFun ht 3).trans d3
   have e4 : t 4 = _ := (congrFun ht 4).trans d4
   have e5 : t 5 = _ := (congrFun ht 5).trans d5
   have e9 : t 9 = _ := (congrFun ht 9).trans d9
   have e10 : t 10 = _ := (congrFun ht 10).trans d10
   have e11 : t 11 = _ := (congrFun ht 11).trans d11
   clear ht s2 a2 d2 s3 a3 d3 s4 a4 d4 s5 a5 d5 s9 a9 d9 s10 a10 d10 s11 a11 d11 hT hu
   subst hTl
   rw [e2, e3, e4, e5, e9, e10, e11]
   obtain ⟨k, bq, oq, pr, hcf, hkq, hqa, hcp, hpf⟩ := hpa h3
   have HV2 := hide (show VE = !decide ((na : Int) = pr) by rw [hVE, decide_eq_true h3, hpf]; rfl)
   rw [hcf] at x2
   rw [hqa] at p0
   have b3 : (ck == 3) = true := by simp [h3]
   have k0 : (0 : Int) ≤ (k : Int) := by omega
   have k1 : (k : Int) < (ql : Int) := by omega
   clear h3 hcf hqa hpf hVE hpa
   by_cases hp : (na : Int) = pr
   · have bP : ((na : Int) != pr) = false := by simp [hp]
     have hV3 := hide (show VE = false by rw [unhide HV2, decide_eq_true hp]; rfl)
     clear hp
     go_quiet (fail)
     exact (unhide HQ) _ _ ⟨⟨rfl, fun k hk => by rcases (show k = 0 ∨ k = 1 ∨ k = 2 ∨ k = 3 ∨ k = 4 ∨ k = 5 ∨ k = 6 ∨ k = 7 ∨ k = 8 ∨ k = 9 ∨ k = 10 ∨ k = 11 ∨ k = 12 ∨ k = 13 by omega) with rfl | rfl | rfl | rfl | rfl | rfl | rfl | rfl | rfl | rfl | rfl | rfl | rfl | rfl <;> first | rfl | exact congrArg some e2.symm | exact congrArg some e3.symm | exact congrArg some e4.symm | exact congrArg some e5.symm | exact congrArg some e9.symm | exact congrArg some e10.symm | exact congrArg some e11.symm⟩, congrArg (fun b => some (Value.bool b)) (by rw [unhide hV3] <;> rfl), below_drewN (Below.refl _ _) _⟩
   · have bP : ((na : Int) != pr) = true := by simpa using hp
     have hV3 := hide (show VE = true by rw [unhide HV2, decide_eq_false hp]; rfl)
     clear hp
     go_quiet (fail)
     exact (unhide HQ) _ _ ⟨⟨rfl, fun k hk => by rcases (show k = 0 ∨ k = 1 ∨ k = 2 ∨ k = 3 ∨ k = 4 ∨ k = 5 ∨ k = 6 ∨ k = 7 ∨ k = 8 ∨ k = 9 ∨ k = 10 ∨ k = 11 ∨ k = 12 ∨ k = 13 by omega) with rfl | rfl | rfl | rfl | rfl | rfl | rfl | rfl | rfl | rfl | rfl | rfl | rfl | rfl <;> first | rfl | exact congrArg some e2.symm | exact congrArg some e3.symm | exact congrArg some e4.symm | exact congrArg some e5.symm | exact congrArg some e9.symm | exact congrArg some e10.symm | exact congrArg some e11.symm⟩, congrArg (fun b => some (Value.bool b)) (by rw [unhide hV3] <;> rfl), below_drewN (Below.refl _ _) _⟩
 · have b3 : (ck == 3) = false := by simpa using h3
   have hV3 := hide (show VE = false by rw [hVE, decide_eq_false h3]; rfl)
   clear hVE hpa x0 x1 x2 x3 x4 x5 x6 x7 x8 x9 x10 x11 f0 f1 f2 f3 f4 f5 p0
   refine wp_region_quiet_lit (by kernel_rfl) (by kernel_rfl) ?_
   (refine wpQuiet_step (fun K hK => ?_); go_simp; with_reducible refine hK _ ?_; clear hK K)
   (refine wpQuiet_step (fun K hK => ?_); go_simp; with_reducible refine hK _ ?_; clear hK K)
   (refine wpQuiet_step (fun K hK => ?_); go_simp; with_reducible refine hK _ ?_; clear hK K)
   refine Fq.qskip (n := 14) (j := 2) (dj := 153) (b := true) rfl 11 _ _ rfl (Fq.set_at _ (by simp [hT]) _) ?_
   intro T5 hk5 h153
   have hT5 : T5.size = 226 := hk5.size.trans (by simp [hT])
   have a153 := fun h => Fq.el h153 h
   have d153 := Fq.gd h153
   have HK5 := hide hk5
   clear hk5
   simp only [List.drop]
   (refine wpQuiet_step (fun K hK => ?_); go_simp; with_reducible refine hK _ ?_; clear hK K)
   refine wpQuiet_nil ?_
   intro _ hw1
   obtain ⟨nq, hw2⟩ := hw1
   subst hw2
   exact (unhide HQ) _ _ ⟨Fq.Kp.set (Fq.Kp.trans (by (repeat (with_reducible refine Fq.Kp.set ?_ (by decide) _)); with_reducible exact Fq.Kp.refl _ _) (unhide HK5)) (by decide) _, (Fq.set_at _ (by simp [hT5]) _).trans (by rw [unhide hV3] <;> rfl), below_drewN (Below.refl _ _) _⟩
end
end Go.Proofs.Ytpfogjplnodacaa
namespace Go.Proofs.Ytpfogjplnodacaa
open Go.RowKit
set_option linter.unusedVariables false
section
variable {T : Array Value} {w : World} {Q : Exit → Act → World → Prop} {qa ad sa fa ra ia ea aa ta la : Option Addr} {ql qc tl tcap sl sc fl fc rl rc il ic el ec na ac nt tc ne lc bp bx : Nat} {calls i ck cv cf ik inn ek en fp rk rn : Int}
theorem ck_r24 {q CA ba oa zl zc : Nat} {ak an : Int} {za : Option Addr} (hF : Ck.Fm T calls ad tl tcap bp i bx ck) (hY : Pg.YB (.slice qa ql qc) [.int .i64 fp, .slice sa sl sc, .slice fa fl fc, .int .i64 rk, .int .i64 rn, .slice ra rl rc] [.int .i64 ck, .int .i64 cv, .int .i64 cf, .int .i64 ik, .int .i64 inn, .slice ia il ic, .int .i64 ek, .int .i64 en, .slice ea el ec, .slice aa na ac, .slice ta nt tc, .slice la ne lc] bp bx w) (s13 : T[13]? = some (.int .i64 (q : Nat))) (hna : na ≤ 35184372088832) (hq : q < na) (haa : aa = some ⟨ba, oa, none⟩) (hba : ba < w.heap.size) (g0 : w.cell? ⟨ba, oa + q * 3, none⟩ = some (.int .i64 ak)) (g1 : w.cell? ⟨ba, oa + q * 3 + 1, none⟩ = some (.int .i64 an)) (g2 : w.cell? ⟨ba, oa + q * 3 + 2, none⟩ = some (.slice za zl zc))
  (hca : ∀ V, Below w.heap.size w V → Calls Try.prog 15 #[.agg #[.int .i64 ak, .int .i64 an, .slice za zl zc], .slice sa sl sc] V fun r w' => r = .returned (.int .i64 (CA : Nat)) ∧ Below V.heap.size V w')
  (hQ : ∀ T' w', (Fq.Kp 12 T T' ∧ T'[12]? = some (.int .i64 (CA : Nat)) ∧ T'[13]? = some (.int .i64 (q : Nat)) ∧ Below w.heap.size w w') → Q .normal ⟨T', []⟩ w') : (Fq.reg Try.f13 24).wp Try.prog Q ⟨T, []⟩ w := by
 obtain ⟨hT, s2, s3, s4, s5, s9, s10, s11⟩ := hF
 have x0 := hY.x 0 _ rfl
 have x1 := hY.x 1 _ rfl
 have x2 := hY.x 2 _ rfl
 have x3 := hY.x 3 _ rfl
 have x4 := hY.x 4 _ rfl
 have x5 := hY.x 5 _ rfl
 have x6 := hY.x 6 _ rfl
 have x7 := hY.x 7 _ rfl
 have x8 := hY.x 8 _ rfl
 have x9 := hY.x 9 _ rfl
 have x10 := hY.x 10 _ rfl
 have x11 := hY.x 11 _ rfl
 have f0 := hY.f 0 _ rfl
 have f1 := hY.f 1 _ rfl
 have f2 := hY.f 2 _ rfl
 have f3 := hY.f 3 _ rfl
 have f4 := hY.f 4 _ rfl
 have f5 := hY.f 5 _ rfl
 have p0 := hY.p0
 have HYC := hide hY
 clear hY
 have a13 := fun h => Fq.el s13 h
 have d13 := Fq.gd s13
 have a2 := fun h => Fq.el s2 h
 have d2 := Fq.gd s2
 have a3 := fun h => Fq.el s3 h
 have d3 := Fq.gd s3
 have a4 := fun h => Fq.el s4 h
 have d4 := Fq.gd s4
 have a5 := fun h => Fq.el s5 h
 have d5 := Fq.gd s5
 have a9 := fun h => Fq.el s9 h
 have d9 := Fq.gd s9
 have a10 := fun h => Fq.el s10 h
 have d10 := Fq.gd s10
 have a11 := fun h => Fq.el s11 h
 have d11 := Fq.gd s11
 have hu : undef = Value.tuple #[] := rfl
 have HQ := hide hQ
 clear hQ
 conv => arg 2; whnf
 have HKM := hide (show ∀ V : World, Below w.heap.size w V → (V.cell? ⟨bp + 1, 1, none⟩ = some (.slice sa sl sc) ∧ V.cell? ⟨bx, 9, none⟩ = some (.slice (some ⟨ba, oa, none⟩) na ac) ∧ V.cell? ⟨ba, oa + q * 3, none⟩ = some (.int .i64 ak) ∧ V.cell? ⟨ba, oa + q * 3 + 1, none⟩ = some (.int .i64 an) ∧ V.cell? ⟨ba, oa + q * 3 + 2, none⟩ = some (.slice za zl zc) ∧ Below w.heap.size w V) from fun V hV => ⟨(hV.cell (p := ⟨bp + 1, 1, none⟩) (unhide HYC).lp).trans f1, by rw [← haa]; exact (hV.cell (p := ⟨bx, 9, none⟩) (unhide HYC).lx).trans x9, (hV.cell (p := ⟨ba, oa + q * 3, none⟩) hba).trans g0, (hV.cell (p := ⟨ba, oa + q * 3 + 1, none⟩) hba).trans g1, (hV.cell (p := ⟨ba, oa + q * 3 + 2, none⟩) hba).trans g2, hV⟩)
 have HCA := hide hca
 have hq0 : (0 : Int) ≤ (q : Int) := by omega
 have hq1 : (q : Int) < (na : Int) := by omega
 clear hca haa hba g0 g1 g2 x0 x1 x2 x3 x4 x5 x6 x7 x8 x9 x10 x11 f0 f1 f2 f3 f4 f5 p0
 obtain ⟨t, ht⟩ : ∃ t : Nat → Value, t = fun i => T.getD i (.tuple #[]) := ⟨_, rfl⟩
 have hTl : T = #[t 0, t 1, t 2, t 3, t 4, t 5, t 6, t 7, t 8, t 9, t 10, t 11, t 12, t 13, t 14, t 15, t 16, t 17, t 18, t 19, t 20, t 21, t 22, t 23, t 24, t 25, t 26, t 27, t 28, t 29, t 30, t 31, t 32, t 33, t 34, t 35, t 36, t 37, t 38, t 39, t 40, t 41, t 42, t 43, t 44, t 45, t 46, t 47, t 48, t 49, t 50, t 51, t 52, t 53, t 54, t 55, t 56, t 57, t 58, t 59, t 60, t 61, t 62, t 63, t 64, t 65, t 66, t 67, t 68, t 69, t 70, t 71, t 72, t 73, t 74, t 75, t 76, t 77, t 78, t 79, t 80, t 81, t 82, t 83, t 84, t 85, t 86, t 87, t 88, t 89, t 90, t 91, t 92, t 93, t 94, t 95, t 96, t 97, t 98, t 99, t 100, t 101, t 102, t 103, t 104, t 105, t 106, t 107, t 108, t 109, t 110, t 111, t 112, t 113, t 114, t 115, t 116, t 117, t 118, t 119, t 120, t 121, t 122, t 123, t 124, t 125, t 126, t 127, t 128, t 129, t 130, t 131, t 132, t 133, t 134, t 135, t 136, t 137, t 138, t 139, t 140, t 141, t 142, t 143, t 144, t 145, t 146, t 147, t 148, t 149, t 150, t 151, t 152, t 153, t 154, t 155, t 156, t 157, t 158, t 159, t 160, t 161, t 162, t 163, t 164, t 165, t 166, t 167, t 168, t 169, t 170, t 171, t 172, t 173, t 174, t 175, t 176, t 177, t 178, t 179, t 180, t 181, t 182, t 183, t 184, t 185, t 186, t 187, t 188, t 189, t 190, t 191, t 192, t 193, t 194, t 195, t 196, t 197, t 198, t 199, t 200, t 201, t 202, t 203, t 204, t 205, t 206, t 207, t 208, t 209, t 210, t 211, t 212, t 213, t 214, t 215, t 216, t 217, t 218, t 219, t 220, t 221, t 222, t 223, t 224, t 225] := by rw [ht]; exact Fq.ls_is hT
 have e2 : t 2 = _ := (congrFun ht 2).trans d2
 have e3 : t 3 = _ := (congrFun ht 3).trans d3
 have e4 : t 4 = _ := (congrFun ht 4).trans d4
 have e5 : t 5 = _ := (congrFun ht 5).trans d5
 have e9 : t 9 = _ := (congrFun ht 9).trans d9
 have e10 : t 10 = _ := (congrFun ht 10).trans d10
 have e11 : t 11 = _ := (congrFun ht 11).trans d11
 have e13 : t 13 = _ := (congrFun ht 13).trans d13
 clear ht s13 a13 d13 s2 a2 d2 s3 a3 d3 s4 a4 d4 s5 a5 d5 s9 a9 d9 s10 a10 d10 s11 a11 d11 hT hu
 subst hTl
 rw [e2, e3, e4, e5, e9, e10, e11, e13]
 go_region_held3 (fun V => V.cell? ⟨bp + 1, 1, none⟩ = some (.slice sa sl sc) ∧ V.cell? ⟨bx, 9, none⟩ = some (.slice (some ⟨ba, oa, none⟩) na ac) ∧ V.cell? ⟨ba, oa + q * 3, none⟩ = some (.int .i64 ak) ∧ V.cell? ⟨ba, oa + q * 3 + 1, none⟩ = some (.int .i64 an) ∧ V.cell? ⟨ba, oa + q * 3 + 2, none⟩ = some (.slice za zl zc) ∧ Below w.heap.size w V)
  (first | assumption | exact (unhide HKM) _ ((Below.refl _ _).drew) | exact (unhide HKM) _ (unhide HB9))
  (first
   | (go_at_call 15; refine ((unhide HCA) _ ?_).mono ?_; exact (Below.refl _ _).drew; rintro r w9 ⟨rfl, hb9⟩; have HB9 := hide (((Below.refl w.heap.size w).drew).trans (hb9.mono (Nat.le_refl _))); clear hb9))
 all_goals
  exact (unhide HQ) _ _ ⟨⟨rfl, fun k hk => by rcases (show k = 0 ∨ k = 1 ∨ k = 2 ∨ k = 3 ∨ k = 4 ∨ k = 5 ∨ k = 6 ∨ k = 7 ∨ k = 8 ∨ k = 9 ∨ k = 10 ∨ k = 11 by omega) with rfl | rfl | rfl | rfl | rfl | rfl | rfl | rfl | rfl | rfl | rfl | rfl <;> first | rfl | exact congrArg some e2.symm | exact congrArg some e3.symm | exact congrArg some e4.symm | exact congrArg some e5.symm | exact congrArg some e9.symm | exact congrArg some e10.symm | exact congrArg some e11.symm⟩, rfl, by first | rfl | exact congrArg some e13, unhide HB9⟩
end
end Go.Proofs.Ytpfogjplnodacaa
namespace Go.Proofs.Ytpfogjplnodacaa
open Go.RowKit
set_option linter.unusedVariables false
structure Ck.F0 (T : Array Value) (calls : Int) (ad : Option Addr) (tl tcap bp i : Nat) : Prop where
 size : T.size = 226
 s2 : T[2]? = some (.int .i64 calls)
 s3 : T[3]? = some (.slice ad tl tcap)
 s4 : T[4]? = some (.pointer (some ⟨bp, 0, none⟩))
 s5 : T[5]? = some (.pointer (some ⟨bp + 1, 0, none⟩))
 s9 : T[9]? = some (.int .i64 (i : Nat))
theorem Ck.F0.kp {T T' : Array Value} {calls : Int} {ad : Option Addr} {tl tcap bp i : Nat} (h : Ck.F0 T calls ad tl tcap bp i) (k : Fq.Kp 10 T T') : Ck.F0 T' calls ad tl tcap bp i :=
 ⟨k.size.trans h.size, (k.at_ 2 (by omega)).trans h.s2, (k.at_ 3 (by omega)).trans h.s3, (k.at_ 4 (by omega)).trans h.s4, (k.at_ 5 (by omega)).trans h.s5, (k.at_ 9 (by omega)).trans h.s9⟩
theorem Ck.Fm.f0 {T : Array Value} {calls : Int} {ad : Option Addr} {tl tcap bp i bx : Nat} {ck : Int} (h : Ck.Fm T calls ad tl tcap bp (i : Nat) bx ck) : Ck.F0 T calls ad tl tcap bp i := ⟨h.size, h.s2, h.s3, h.s4, h.s5, h.s9⟩
theorem ck_round {m n j : Nat} (qa : Option Addr) (ql qc : Nat) (p : List (Pg.FT m n)) (now : Nat) (x : Pg.FT m n) (calls : Int) (fp rk rn : Int) (sa fa ra : Option Addr) (sl sc fl fc rl rc : Nat) (hnn : ∀ z ∈ x.sizes, 0 ≤ z) (hcl : ∀ z : Int, decide (0 ≤ z ∧ z ≤ calls - 1) = Pg.may now p.length z) (hc0 : 0 ≤ calls) (hc6 : calls ≤ 1000)
  (ih : ∀ (t : Pg.Sl) (l : List (Pg.CT m j)) (w : World), Pg.RP w m n ⟨qa, ql, qc⟩ p → Pg.RN w ⟨sa, sl, sc⟩ x.sizes → Pg.RS w 12 (Pg.LC w) (Pg.RC w m j) t l → Calls Try.prog 13 #[.agg #[.slice qa ql qc], .agg #[.int .i64 fp, .slice sa sl sc, .slice fa fl fc, .int .i64 rk, .int .i64 rn, .slice ra rl rc], .int .i64 calls, .slice t.ad t.len t.cap] w fun r w' => r = .returned (.int .i64 (Pg.wcs p now x j l : Nat)) ∧ Below w.heap.size w w') (w : World) (hp : Pg.RP w m n ⟨qa, ql, qc⟩ p) (hsz : Pg.RN w ⟨sa, sl, sc⟩ x.sizes) (wr : World) (hbw : Below w.heap.size w wr)
  (bp : Nat) (p0 : wr.cell? ⟨bp, 0, none⟩ = some (.slice qa ql qc)) (hfb : ∀ i v, [.int .i64 fp, .slice sa sl sc, .slice fa fl fc, .int .i64 rk, .int .i64 rn, .slice ra rl rc][i]? = some v → wr.cell? ⟨bp + 1, i, none⟩ = some v) (hlp : bp + 1 < wr.heap.size)
  (b o i tl tcap : Nat) (hi : i < tl) (htl : tl ≤ 35184372088832) (cc : Pg.C) (y : Pg.CT m (j + 1)) (hlies : Pg.LC wr b (o + i * 12) cc) (hrd : Pg.RC w m (j + 1) cc y)
  (U : Array Value) (hF : Ck.F0 U calls (some ⟨b, o, none⟩) tl tcap bp i) (Q : Exit → Act → World → Prop)
  (G : Nat) (hG : G = Pg.orW (Pg.wcm p now x y) (Pg.orW (Pg.wcs p now x j y.2.2.1) (Pg.wcs p now x j y.2.2.2)))
  (hQn : ∀ U' v, Ck.F0 U' calls (some ⟨b, o, none⟩) tl tcap bp i → Below wr.heap.size wr v → G = 0 → Q .normal ⟨U', []⟩ v)
  (hQr : ∀ U' v, U'[8]? = some (.int .i64 (G : Nat)) → Below wr.heap.size wr v → G ≠ 0 → Q .ret ⟨U', []⟩ v) :
  (Fq.blk Try.f13 1).wp Try.prog Q ⟨U, []⟩ wr := by
 have hqf := hp.few
 have hql : ql = p.length := hp.len
 have hsl : sl = x.sizes.length := hsz.len
 have hsf : sl ≤ 35184372088832 := by rw [hsl]; exact hsz.few
 have hqf2 : ql ≤ 35184372088832 := by omega
 obtain ⟨ck, cv, cf, ⟨ik, inn, ia, il, ic⟩, ⟨ek, en, ea, el, ec⟩, ⟨aa, na, ac⟩, ⟨ta, nt, tc⟩, ⟨la, ne, lc⟩⟩ := cc
 obtain ⟨⟨hk, hv, hf⟩, ⟨hix, hex, hag⟩, hth, hel⟩ := hrd
 obtain ⟨e0, e1, e2, e3, e4, e5, e6, e7, e8, e9, e10, e11⟩ := hlies
 dsimp only at *
 have hcx : ∀ (V : World) (hV : Below w.heap.size w V) (e : Pg.E) (y : Pg.XT m) (hre : Pg.RX V m e y), Calls Try.prog 15 #[e.val, .slice sa sl sc] V fun r w' => r = .returned (.int .i64 (Pg.chkX x.sizes m y : Nat)) ∧ Below V.heap.size V w' := fun V hV e y hre => CheckExpr_any m e y V ⟨sa, sl, sc⟩ x.sizes hre (hsz.later hV (Nat.le_refl _)) hnn
 have hal := (Below.refl wr.heap.size wr).alloc (Nat.le_refl _) (Obj.cells #[.int .i64 ck, .int .i64 cv, .int .i64 cf, .int .i64 ik, .int .i64 inn, .slice ia il ic, .int .i64 ek, .int .i64 en, .slice ea el ec, .slice aa na ac, .slice ta nt tc, .slice la ne lc] 70)
 have hYB : Pg.YB (.slice qa ql qc) [.int .i64 fp, .slice sa sl sc, .slice fa fl fc, .int .i64 rk, .int .i64 rn, .slice ra rl rc] [.int .i64 ck, .int .i64 cv, .int .i64 cf, .int .i64 ik, .int .i64 inn, .slice ia il ic, .int .i64 ek, .int .i64 en, .slice ea el ec, .slice aa na ac, .slice ta nt tc, .slice la ne lc] bp wr.heap.size (wr.alloc (Obj.cells #[.int .i64 ck, .int .i64 cv, .int .i64 cf, .int .i64 ik, .int .i64 inn, .slice ia il ic, .int .i64 ek, .int .i64 en, .slice ea el ec, .slice aa na ac, .slice ta nt tc, .slice la ne lc] 70)) := by
  refine ⟨(hal.cell (p := ⟨bp, 0, none⟩) (by show bp < _; omega)).trans p0, fun i v hv => (hal.cell (p := ⟨bp + 1, i, none⟩) hlp).trans (hfb i v hv), fun i v hv => ?_, by simp; omega, by simp⟩
  match i, hv with
  | 0, hv => cases hv; go_simp
  | 1, hv => cases hv; go_simp
  | 2, hv => cases hv; go_simp
  | 3, hv => cases hv; go_simp
  | 4, hv => cases hv; go_simp
  | 5, hv => cases hv; go_simp
  | 6, hv => cases hv; go_simp
  | 7, hv => cases hv; go_simp
  | 8, hv => cases hv; go_simp
  | 9, hv => cases hv; go_simp
  | 10, hv => cases hv; go_simp
  | 11, hv => cases hv; go_simp
  | _ + 12, hv => cases hv
 have hW1 := hbw.trans (hal.mono hbw.size)
 have hna : na = y.2.1.2.2.length := hag.len
 have hnaf : na ≤ 35184372088832 := by rw [hna]; exact hag.few
 have hnt : nt = y.2.2.1.length := hth.len
 have hntf : nt ≤ 35184372088832 := by rw [hnt]; exact hth.few
 have hne : ne = y.2.2.2.length := hel.len
 have hnef : ne ≤ 35184372088832 := by rw [hne]; exact hel.few
 have hM : Pg.wcm p now x y = Pg.wc ck (Pg.at? x.sizes cv) (Pg.may now p.length cf) (Pg.more ck cv cf na (Pg.isX m y.2.1.1) (Pg.isX m y.2.1.2.1) nt ne) (decide ((na : Int) = Pg.parOf p cf)) (Pg.chkX x.sizes m y.2.1.1) (Pg.chkX x.sizes m y.2.1.2.1) (Pg.first (y.2.1.2.2.map (Pg.chkX x.sizes m))) := by rw [hna, hnt, hne, hk, hv, hf]; rfl
 have hIX : ∀ V, Below (wr.alloc (Obj.cells #[.int .i64 ck, .int .i64 cv, .int .i64 cf, .int .i64 ik, .int .i64 inn, .slice ia il ic, .int .i64 ek, .int .i64 en, .slice ea el ec, .slice aa na ac, .slice ta nt tc, .slice la ne lc] 70)).heap.size (wr.alloc (Obj.cells #[.int .i64 ck, .int .i64 cv, .int .i64 cf, .int .i64 ik, .int .i64 inn, .slice ia il ic, .int .i64 ek, .int .i64 en, .slice ea el ec, .slice aa na ac, .slice ta nt tc, .slice la ne lc] 70)) V → Calls Try.prog 14 #[.agg #[.int .i64 ik, .int .i64 inn, .slice ia il ic]] V fun r w' => r = .returned (.bool (!Pg.isX m y.2.1.1)) ∧ Below V.heap.size V w' := fun V hV => noneExpr_any m ⟨ik, inn, ⟨ia, il, ic⟩⟩ y.2.1.1 V (hix.later (hW1.trans (hV.mono hW1.size)) (Nat.le_refl _))
 have hEX : ∀ V, Below (wr.alloc (Obj.cells #[.int .i64 ck, .int .i64 cv, .int .i64 cf, .int .i64 ik, .int .i64 inn, .slice ia il ic, .int .i64 ek, .int .i64 en, .slice ea el ec, .slice aa na ac, .slice ta nt tc, .slice la ne lc] 70)).heap.size (wr.alloc (Obj.cells #[.int .i64 ck, .int .i64 cv, .int .i64 cf, .int .i64 ik, .int .i64 inn, .slice ia il ic, .int .i64 ek, .int .i64 en, .slice ea el ec, .slice aa na ac, .slice ta nt tc, .slice la ne lc] 70)) V → Calls Try.prog 14 #[.agg #[.int .i64 ek, .int .i64 en, .slice ea el ec]] V fun r w' => r = .returned (.bool (!Pg.isX m y.2.1.2.1)) ∧ Below V.heap.size V w' := fun V hV => noneExpr_any m ⟨ek, en, ⟨ea, el, ec⟩⟩ y.2.1.2.1 V (hex.later (hW1.trans (hV.mono hW1.size)) (Nat.le_refl _))
 have hCI : ∀ V, Below w.heap.size w V → Calls Try.prog 15 #[.agg #[.int .i64 ik, .int .i64 inn, .slice ia il ic], .slice sa sl sc] V fun r w' => r = .returned (.int .i64 (Pg.chkX x.sizes m y.2.1.1 : Nat)) ∧ Below V.heap.size V w' := fun V hV => hcx V hV ⟨ik, inn, ⟨ia, il, ic⟩⟩ y.2.1.1 (hix.later hV (Nat.le_refl _))
 have hCE : ∀ V, Below w.heap.size w V → Calls Try.prog 15 #[.agg #[.int .i64 ek, .int .i64 en, .slice ea el ec], .slice sa sl sc] V fun r w' => r = .returned (.int .i64 (Pg.chkX x.sizes m y.2.1.2.1 : Nat)) ∧ Below V.heap.size V w' := fun V hV => hcx V hV ⟨ek, en, ⟨ea, el, ec⟩⟩ y.2.1.2.1 (hex.later hV (Nat.le_refl _))
 have hTH : ∀ V, Below w.heap.size w V → Calls Try.prog 13 #[.agg #[.slice qa ql qc], .agg #[.int .i64 fp, .slice sa sl sc, .slice fa fl fc, .int .i64 rk, .int .i64 rn, .slice ra rl rc], .int .i64 calls, .slice ta nt tc] V fun r w' => r = .returned (.int .i64 (Pg.wcs p now x j y.2.2.1 : Nat)) ∧ Below V.heap.size V w' := fun V hV => ih ⟨ta, nt, tc⟩ y.2.2.1 V (Pg.RP.later hp hV (Nat.le_refl _)) (hsz.later hV (Nat.le_refl _)) (hth.laterC hV (Nat.le_refl _))
 have hEL : ∀ V, Below w.heap.size w V → Calls Try.prog 13 #[.agg #[.slice qa ql qc], .agg #[.int .i64 fp, .slice sa sl sc, .slice fa fl fc, .int .i64 rk, .int .i64 rn, .slice ra rl rc], .int .i64 calls, .slice la ne lc] V fun r w' => r = .returned (.int .i64 (Pg.wcs p now x j y.2.2.2 : Nat)) ∧ Below V.heap.size V w' := fun V hV => ih ⟨la, ne, lc⟩ y.2.2.2 V (Pg.RP.later hp hV (Nat.le_refl _)) (hsz.later hV (Nat.le_refl _)) (hel.laterC hV (Nat.le_refl _))
 have hVA : decide (0 ≤ cv ∧ cv ≤ (sl : Int) - 1) = (Pg.at? x.sizes cv).isSome := by
  unfold Pg.at?
  by_cases h0 : 0 ≤ cv
  · rw [if_pos h0]
    by_cases h2 : cv ≤ (sl : Int) - 1
    · rw [decide_eq_true ⟨h0, h2⟩, List.getElem?_eq_getElem (by omega)]
      rfl
    · rw [decide_eq_false (fun h => h2 h.2), List.getElem?_eq_none (by omega)]
      rfl
  · rw [if_neg h0, decide_eq_false (fun h => h0 h.1)]
    rfl
 have hVZ : ∀ (V : World) (hV : Below w.heap.size w V) (z : Int) (hz : Pg.at? x.sizes cv = some z), ∃ (k b o : Nat), cv = k ∧ k < sl ∧ 0 ≤ z ∧ sa = some ⟨b, o, none⟩ ∧ V.cell? ⟨b, o + k, none⟩ = some (.int .i64 z) := fun V hV z hz => by
  unfold Pg.at? at hz
  split at hz
  · rename_i h0
    obtain ⟨k, rfl⟩ : ∃ k : Nat, cv = k := ⟨cv.toNat, by omega⟩
    rw [Int.toNat_natCast] at hz
    obtain ⟨b, o, h1, h2, h3⟩ := (hsz.later hV (Nat.le_refl _)).at_ k z hz
    exact ⟨k, b, o, rfl, by have := (List.getElem?_eq_some_iff.1 hz).1; omega, hnn z (List.mem_of_getElem? hz), h1, h3⟩
  · cases hz
 have hPA : ∀ (V : World) (hV : Below w.heap.size w V) (hm : Pg.may now p.length cf = true), ∃ (k b o : Nat) (pr : Int), cf = k ∧ k < ql ∧ qa = some ⟨b, o, none⟩ ∧ V.cell? ⟨b, o + k * 6, none⟩ = some (.int .i64 pr) ∧ Pg.parOf p cf = pr := fun V hV hm => by
  have hm2 : 0 ≤ cf ∧ cf ≤ (now : Int) ∧ cf < (p.length : Int) - 1 := of_decide_eq_true hm
  obtain ⟨k, rfl⟩ : ∃ k : Nat, cf = k := ⟨cf.toNat, by omega⟩
  have hkl : k < p.length := by omega
  obtain ⟨b, o, ff, h1, h2, h3, h4⟩ := (Pg.RP.later hp hV (Nat.le_refl _)).at_ k _ (List.getElem?_eq_getElem hkl)
  refine ⟨k, b, o, ff.params, rfl, by omega, h1, h3.c0, ?_⟩
  unfold Pg.parOf
  rw [Int.toNat_natCast, List.getElem?_eq_getElem hkl, h4.params]
  rfl
 have hRET : ∀ k, Pg.wcm p now x y = k → k ≠ 0 → G = k := fun k h1 h2 => by rw [hG, h1]; exact if_neg h2
 clear hk hv hf
 refine Fq.in_ Try.f13 1 (by kernel_rfl) ?_
 refine wp_seq ?_
 refine Fq.at_ Try.f13 4 (by kernel_rfl) ?_
 refine ck_r4 hF.size hF.s3 hF.s9 hi htl e0 e1 e2 e3 e4 e5 e6 e7 e8 e9 e10 e11 (fun U1 ⟨k1, h10⟩ => ?_)
 generalize hW1d : wr.alloc (Obj.cells #[.int .i64 ck, .int .i64 cv, .int .i64 cf, .int .i64 ik, .int .i64 inn, .slice ia il ic, .int .i64 ek, .int .i64 en, .slice ea el ec, .slice aa na ac, .slice ta nt tc, .slice la ne lc] 70) = W1 at *
 have hF1 := hF.kp k1
 refine Fq.ok ?_
 refine wp_seq ?_
 refine Fq.at_ Try.f13 5 (by kernel_rfl) ?_
 refine ck_r5 hF1.size h10 (hYB.x 0 _ rfl) (fun U2 ⟨k2, h11⟩ => ?_)
 have hm2 : Ck.Fm U2 calls (some ⟨b, o, none⟩) tl tcap bp (i : Nat) wr.heap.size ck := ⟨k2.size.trans hF1.size, (k2.at_ 2 (by omega)).trans hF1.s2, (k2.at_ 3 (by omega)).trans hF1.s3, (k2.at_ 4 (by omega)).trans hF1.s4, (k2.at_ 5 (by omega)).trans hF1.s5, (k2.at_ 9 (by omega)).trans hF1.s9, (k2.at_ 10 (by omega)).trans h10, h11⟩
 clear hF hF1 k1 k2 h10 h11
 refine Fq.ok ?_
 obtain ⟨V1, hV1⟩ : ∃ b, decide (1 ≤ ck ∧ ck ≤ 7) = b := ⟨_, rfl⟩
 refine wp_seq (wp_seq ?_)
 refine Fq.at_ Try.f13 6 (by kernel_rfl) ?_
 refine ck_r6 hm2.size hm2.s11 hV1 (fun U3 ⟨k3, h28⟩ => ?_)
 have hm3 := hm2.kp (k3.mono (by omega))
 clear hm2 k3
 refine Fq.ok ?_
 refine Fq.cond 28 h28 (fun hb => ?_) (fun hb => ?_)
 · have hK : ¬ (1 ≤ ck ∧ ck ≤ 7) := by
    intro h
    rw [decide_eq_true h] at hV1
    subst hV1
    cases hb
   have hGv : G = 7 := hRET 7 (by rw [hM, Pg.wc_out hK]) (by decide)
   refine wp_seq ?_
   refine Fq.at_ Try.f13 7 (by kernel_rfl) ?_
   refine ck_r7 hm3.size (fun U' ⟨_, h8⟩ => ?_)
   refine Fq.ok (wp_ret ?_)
   repeat (first | with_reducible refine Fq.thR ?_ | with_reducible refine Fq.blR ?_)
   exact hQr _ _ (by rw [hGv]; exact h8) hal (by rw [hGv]; decide)
 refine Fq.skip ?_
 refine Fq.ok ?_
 have hK : 1 ≤ ck ∧ ck ≤ 7 := by
  refine of_decide_eq_true ?_
  rw [hV1]
  simpa using hb
 clear hb hV1 h28
 obtain ⟨VB, hVB⟩ : ∃ VB, VB = (decide (ck ≤ 4) && !(Pg.at? x.sizes cv).isSome || decide (ck = 3) && !Pg.may now p.length cf) := ⟨_, rfl⟩
 refine wp_seq (wp_seq ?_)
 refine Fq.at_ Try.f13 8 (by kernel_rfl) ?_
 refine ck_r8 hm3 hYB hsf hc0 hc6 hVA (hcl cf) hVB (fun U4 ⟨k4, h52⟩ => ?_)
 have hm4 := hm3.kp (k4.mono (by omega))
 clear hm3 k4
 refine Fq.ok ?_
 refine Fq.cond 52 h52 (fun hb => ?_) (fun hb => ?_)
 · have hGv : G = 5 := hRET 5 (by rw [hM, Pg.wc_none hK (hVB.symm.trans hb)]) (by decide)
   refine wp_seq ?_
   refine Fq.at_ Try.f13 9 (by kernel_rfl) ?_
   refine ck_r9 hm4.size (fun U' ⟨_, h8⟩ => ?_)
   refine Fq.ok (wp_ret ?_)
   repeat (first | with_reducible refine Fq.thR ?_ | with_reducible refine Fq.blR ?_)
   exact hQr _ _ (by rw [hGv]; exact h8) hal (by rw [hGv]; decide)
 refine Fq.skip ?_
 refine Fq.ok ?_
 obtain ⟨hM2, hva4, hmy3⟩ := Pg.wc_some (mo := Pg.more ck cv cf na (Pg.isX m y.2.1.1) (Pg.isX m y.2.1.2.1) nt ne) (pa := decide ((na : Int) = Pg.parOf p cf)) (wi := Pg.chkX x.sizes m y.2.1.1) (we := Pg.chkX x.sizes m y.2.1.2.1) (wa := Pg.first (y.2.1.2.2.map (Pg.chkX x.sizes m))) hK (hVB.symm.trans hb)
 have hM3 := hM.trans hM2
 clear hM2 hM hVB hb h52
 obtain ⟨VC, hVC⟩ : ∃ VC, VC = (decide (ck ≤ 4) && decide (¬ ((Pg.at? x.sizes cv).getD 0 ≠ 0 ↔ ck = 2))) := ⟨_, rfl⟩
 refine wp_seq (wp_seq ?_)
 refine Fq.at_ Try.f13 10 (by kernel_rfl) ?_
 refine ck_r10 (va := Pg.at? x.sizes cv) hm4 hYB hsf (fun h4 => by
  obtain ⟨z, hz⟩ := hva4 h4
  obtain ⟨k, bz, oz, q1, q2, q3, q4, q5⟩ := hVZ W1 hW1 z hz
  exact ⟨z, k, bz, oz, hz, q1, q2, q3, q4, q5⟩) hVC (fun U5 ⟨k5, h80⟩ => ?_)
 have hm5 := hm4.kp (k5.mono (by omega))
 clear hm4 k5
 refine Fq.ok ?_
 refine Fq.cond 80 h80 (fun hb => ?_) (fun hb => ?_)
 · have hGv : G = 7 := hRET 7 (by
    have h2 : (decide (ck ≤ 4) && decide (¬ ((Pg.at? x.sizes cv).getD 0 ≠ 0 ↔ ck = 2))) = true := hVC.symm.trans hb
    rw [Bool.and_eq_true, decide_eq_true_eq, decide_eq_true_eq] at h2
    rw [hM3, if_pos h2]) (by decide)
   refine wp_seq ?_
   refine Fq.at_ Try.f13 11 (by kernel_rfl) ?_
   refine ck_r11 hm5.size (fun U' ⟨_, h8⟩ => ?_)
   refine Fq.ok (wp_ret ?_)
   repeat (first | with_reducible refine Fq.thR ?_ | with_reducible refine Fq.blR ?_)
   exact hQr _ _ (by rw [hGv]; exact h8) hal (by rw [hGv]; decide)
 refine Fq.skip ?_
 refine Fq.ok ?_
 have hM4 := hM3.trans (if_neg (fun h => by
  have h1 : (decide (ck ≤ 4) && decide (¬ ((Pg.at? x.sizes cv).getD 0 ≠ 0 ↔ ck = 2))) = false := hVC.symm.trans hb
  rw [decide_eq_true h.1, decide_eq_true h.2] at h1
  cases h1))
 clear hM3 hVC hb h80
 obtain ⟨mo, hmo⟩ : ∃ mo, mo = Pg.more ck cv cf na (Pg.isX m y.2.1.1) (Pg.isX m y.2.1.2.1) nt ne := ⟨_, rfl⟩
 refine wp_seq (wp_seq ?_)
 refine Fq.at_ Try.f13 12 (by kernel_rfl) ?_
 refine ck_r12 hm5 hYB hnaf hntf hnef hIX hEX hK hmo (fun U6 v2 ⟨k6, h150, hb2⟩ => ?_)
 have hm6 := hm5.kp (k6.mono (by omega))
 have hY2 := hYB.later hb2
 have hW2 := hW1.trans (hb2.mono hW1.size)
 have hA2 := hal.trans (hb2.mono hal.size)
 clear hm5 k6
 refine Fq.ok ?_
 refine Fq.cond 150 h150 (fun hb => ?_) (fun hb => ?_)
 · have hGv : G = 1 := hRET 1 (by rw [hM4, if_pos (hmo.symm.trans hb)]) (by decide)
   refine wp_seq ?_
   refine Fq.at_ Try.f13 13 (by kernel_rfl) ?_
   refine ck_r13 hm6.size (fun U' ⟨_, h8⟩ => ?_)
   refine Fq.ok (wp_ret ?_)
   repeat (first | with_reducible refine Fq.thR ?_ | with_reducible refine Fq.blR ?_)
   exact hQr _ _ (by rw [hGv]; exact h8) hA2 (by rw [hGv]; decide)
 refine Fq.skip ?_
 refine Fq.ok ?_
 have hM5 := hM4.trans (if_neg (by rw [← hmo, hb]; decide))
 clear hM4 hmo hb h150
 obtain ⟨VE, hVE⟩ : ∃ VE, VE = (decide (ck = 3) && !decide ((na : Int) = Pg.parOf p cf)) := ⟨_, rfl⟩
 refine wp_seq (wp_seq ?_)
 refine Fq.at_ Try.f13 14 (by kernel_rfl) ?_
 refine ck_r14 (pf := Pg.parOf p cf) hm6 hY2 hnaf hqf2 (fun h3 => hPA v2 hW2 (hmy3 h3)) hVE (fun U7 v3 ⟨k7, h165, hb3⟩ => ?_)
 have hm7 := hm6.kp (k7.mono (by omega))
 have hY3 := hY2.later hb3
 have hW3 := hW2.trans (hb3.mono hW2.size)
 have hA3 := hA2.trans (hb3.mono hA2.size)
 clear hm6 k7
 refine Fq.ok ?_
 refine Fq.cond 165 h165 (fun hb => ?_) (fun hb => ?_)
 · have hGv : G = 1 := hRET 1 (by
    have h2 : (decide (ck = 3) && !decide ((na : Int) = Pg.parOf p cf)) = true := hVE.symm.trans hb
    rw [Bool.and_eq_true, decide_eq_true_eq, Bool.not_eq_true'] at h2
    rw [hM5, if_pos h2]) (by decide)
   refine wp_seq ?_
   refine Fq.at_ Try.f13 15 (by kernel_rfl) ?_
   refine ck_r15 hm7.size (fun U' ⟨_, h8⟩ => ?_)
   refine Fq.ok (wp_ret ?_)
   repeat (first | with_reducible refine Fq.thR ?_ | with_reducible refine Fq.blR ?_)
   exact hQr _ _ (by rw [hGv]; exact h8) hA3 (by rw [hGv]; decide)
 refine Fq.skip ?_
 refine Fq.ok ?_
 have hM6 := hM5.trans (if_neg (fun h => by
  have h1 : (decide (ck = 3) && !decide ((na : Int) = Pg.parOf p cf)) = false := hVE.symm.trans hb
  rw [decide_eq_true h.1, h.2] at h1
  cases h1))
 clear hM5 hVE hb h165 hY2 hW2 hYB hIX hEX
 generalize Pg.wcm p now x y = M at *
 refine wp_seq ?_
 refine Fq.at_ Try.f13 16 (by kernel_rfl) ?_
 refine ck_r16 hm7.size (fun U8 ⟨k8, h12⟩ => ?_)
 have hm8 := hm7.kp k8
 clear hm7 k8
 refine Fq.ok ?_
 obtain ⟨E1, hE1⟩ : ∃ E1, E1 = if ck = 2 then Pg.chkX x.sizes m y.2.1.1 else 0 := ⟨_, rfl⟩
 rw [← hE1] at hM6
 refine Fq.cut (fun U' v => Ck.Fm U' calls (some ⟨b, o, none⟩) tl tcap bp (i : Nat) wr.heap.size ck ∧ U'[12]? = some (.int .i64 (E1 : Nat)) ∧ Below v3.heap.size v3 v) (fun Q' hQ' => ?_) (fun U10 v4 ⟨hm10, h12b, hb4⟩ => ?_)
 · refine wp_seq ?_
   refine Fq.at_ Try.f13 17 (by kernel_rfl) ?_
   refine ck_r17 hm8.size hm8.s11 rfl (fun U9 ⟨k9, h167⟩ => ?_)
   have hm9 := hm8.kp (k9.mono (by omega))
   refine Fq.ok ?_
   refine Fq.cond 167 h167 (fun hb => ?_) (fun hb => ?_)
   · have h2 : ck = 2 := by simpa using hb
     refine Fq.at_ Try.f13 18 (by kernel_rfl) ?_
     refine ck_r18 hm9.size hm9.s5 hm9.s10 (hY3.f 1 _ rfl) (hY3.x 3 _ rfl) (hY3.x 4 _ rfl) (hY3.x 5 _ rfl) (hCI v3 hW3) (fun U' v ⟨ka, kb, kc⟩ => ?_)
     exact hQ' _ _ ⟨hm9.kp ka, by rw [kb, hE1, if_pos h2], kc⟩
   · have h2 : ¬ ck = 2 := by simpa using hb
     refine Fq.skip ?_
     exact hQ' _ _ ⟨hm9, by rw [k9.at_ 12 (by omega), h12, hE1, if_neg h2]; rfl, Below.refl _ _⟩
 have hY4 := hY3.later hb4
 have hW4 := hW3.trans (hb4.mono hW3.size)
 have hA4 := hA3.trans (hb4.mono hA3.size)
 clear hm8 h12 hY3 hW3 hE1
 obtain ⟨VF, hVF⟩ : ∃ VF, VF = (decide (E1 = 0) && decide (ck ≠ 3 ∧ ck ≠ 4)) := ⟨_, rfl⟩
 obtain ⟨E2, hE2⟩ : ∃ E2, E2 = Pg.orW E1 (if ck = 3 ∨ ck = 4 then 0 else Pg.chkX x.sizes m y.2.1.2.1) := ⟨_, rfl⟩
 have hM7 : M = Pg.orW E2 (Pg.first (y.2.1.2.2.map (Pg.chkX x.sizes m))) := by
  rw [hM6, hE2]
  unfold Pg.orW
  by_cases h0 : E1 = 0
  · rw [if_pos h0, if_pos h0]
  · rw [if_neg h0, if_neg h0, if_neg h0]
 clear hM6
 refine Fq.cut (fun U' v => Ck.Fm U' calls (some ⟨b, o, none⟩) tl tcap bp (i : Nat) wr.heap.size ck ∧ U'[12]? = some (.int .i64 (E2 : Nat)) ∧ Below v4.heap.size v4 v) (fun Q' hQ' => ?_) (fun U12 v5 ⟨hm12, h12c, hb5⟩ => ?_)
 · refine wp_seq ?_
   refine Fq.at_ Try.f13 19 (by kernel_rfl) ?_
   refine ck_r19 hm10.size hm10.s11 h12b hVF (fun U11 ⟨k11, h182⟩ => ?_)
   have hm11 := hm10.kp (k11.mono (by omega))
   refine Fq.ok ?_
   refine Fq.cond 182 h182 (fun hb => ?_) (fun hb => ?_)
   · have h1 : (decide (E1 = 0) && decide (ck ≠ 3 ∧ ck ≠ 4)) = true := hVF.symm.trans hb
     rw [Bool.and_eq_true, decide_eq_true_eq, decide_eq_true_eq] at h1
     refine Fq.at_ Try.f13 20 (by kernel_rfl) ?_
     refine ck_r20 hm11.size hm11.s5 hm11.s10 (hY4.f 1 _ rfl) (hY4.x 6 _ rfl) (hY4.x 7 _ rfl) (hY4.x 8 _ rfl) (hCE v4 hW4) (fun U' v ⟨ka, kb, kc⟩ => ?_)
     refine hQ' _ _ ⟨hm11.kp ka, ?_, kc⟩
     rw [kb, hE2, h1.1]
     unfold Pg.orW
     rw [if_pos rfl, if_neg (by omega)]
   · refine Fq.skip ?_
     refine hQ' _ _ ⟨hm11, ?_, Below.refl _ _⟩
     have hEE : E2 = E1 := by
      rw [hE2]
      unfold Pg.orW
      by_cases h0 : E1 = 0
      · rw [if_pos h0, h0]
        by_cases h34 : ck = 3 ∨ ck = 4
        · rw [if_pos h34]
        · have h1 : (decide (E1 = 0) && decide (ck ≠ 3 ∧ ck ≠ 4)) = false := hVF.symm.trans hb
          rw [decide_eq_true h0, decide_eq_true (show ck ≠ 3 ∧ ck ≠ 4 by omega)] at h1
          cases h1
      · rw [if_neg h0]
     rw [k11.at_ 12 (by omega), h12b, hEE]
 have hY5 := hY4.later hb5
 have hW5 := hW4.trans (hb5.mono hW4.size)
 have hA5 := hA4.trans (hb5.mono hA4.size)
 clear hm10 h12b hY4 hW4 hE2 hVF
 obtain ⟨wl, hwl⟩ : ∃ wl, wl = y.2.1.2.2.map (Pg.chkX x.sizes m) := ⟨_, rfl⟩
 rw [← hwl] at hM7
 refine Fq.cut (fun U' v => Ck.Fm U' calls (some ⟨b, o, none⟩) tl tcap bp (i : Nat) wr.heap.size ck ∧ U'[12]? = some (.int .i64 (M : Nat)) ∧ Below v5.heap.size v5 v) (fun Q' hQ' => ?_) (fun U14 v6 ⟨hm14, h12d, hb6⟩ => ?_)
 · refine wp_seq ?_
   refine Fq.at_ Try.f13 21 (by kernel_rfl) ?_
   refine ck_r21 hm12.size (fun U13 ⟨k13, h13⟩ => ?_)
   refine Fq.ok ?_
   refine wp_block ?_
   refine wp_loop_ghost (fun d a v => ∃ (U' : Array Value) (q e : Nat), a = ⟨U', []⟩ ∧ q ≤ na ∧ d = na - q ∧ Ck.Fm U' calls (some ⟨b, o, none⟩) tl tcap bp (i : Nat) wr.heap.size ck ∧ U'[12]? = some (.int .i64 (e : Nat)) ∧ U'[13]? = some (.int .i64 (q : Nat)) ∧ M = Pg.orW e (Pg.first (wl.drop q)) ∧ Below v5.heap.size v5 v) na ⟨U13, 0, E2, rfl, Nat.zero_le _, rfl, hm12.kp (k13.mono (by omega)), (k13.at_ 12 (by omega)).trans h12c, h13, by rw [List.drop_zero]; exact hM7, Below.refl _ _⟩ ?_
   rintro d a v ⟨Ua, q, e, rfl, hq, rfl, hma, ha12, ha13, hme, hbv⟩
   obtain ⟨VG, hVG⟩ : ∃ VG, VG = (decide (q < na) && decide (e = 0)) := ⟨_, rfl⟩
   have hYv := hY5.later hbv
   have hWv := hW5.trans (hbv.mono hW5.size)
   refine wp_seq (wp_seq ?_)
   refine Fq.at_ Try.f13 22 (by kernel_rfl) ?_
   refine ck_r22 hma.size hma.s10 ha12 ha13 hnaf (hYv.x 9 _ rfl) hVG (fun Ub ⟨kb, h196⟩ => ?_)
   have hmb := hma.kp (kb.mono (by omega))
   have hb13 := (kb.at_ 13 (by omega)).trans ha13
   have hb12 := (kb.at_ 12 (by omega)).trans ha12
   refine Fq.ok ?_
   refine Fq.cond 196 h196 (fun hb => ?_) (fun hb => ?_)
   · have h1 : (decide (q < na) && decide (e = 0)) = true := hVG.symm.trans hb
     rw [Bool.and_eq_true, decide_eq_true_eq, decide_eq_true_eq] at h1
     obtain ⟨hqn, he0⟩ := h1
     subst he0
     have hq2 : q < y.2.1.2.2.length := by omega
     obtain ⟨ba, oa, ⟨ak, an, a3, a4, a5⟩, hada, hba, ⟨g0, g1, g2⟩, hra⟩ := (hag.laterX hWv (Nat.le_refl _)).at_ q _ (List.getElem?_eq_getElem hq2)
     have hNX : M = Pg.orW (Pg.chkX x.sizes m y.2.1.2.2[q]) (Pg.first (wl.drop (q + 1))) := by
      have hwq : q < wl.length := by rw [hwl, List.length_map]; exact hq2
      have e1 : wl[q] = Pg.chkX x.sizes m y.2.1.2.2[q] := by
       subst hwl
       rw [List.getElem_map]
      rw [hme, List.drop_eq_getElem_cons hwq, e1]
      rfl
     refine Fq.skip ?_
     refine Fq.ok ?_
     refine wp_seq (wp_block ?_)
     refine Fq.at_ Try.f13 24 (by kernel_rfl) ?_
     refine ck_r24 (CA := Pg.chkX x.sizes m y.2.1.2.2[q]) hmb hYv hb13 hnaf hqn hada hba g0 g1 g2 (fun V hV => hcx V (hWv.trans (hV.mono hWv.size)) ⟨ak, an, ⟨a3, a4, a5⟩⟩ _ (hra.later hV (Nat.le_refl _))) (fun Uc vc ⟨kc, hc12, hc13, hbc⟩ => ?_)
     refine Fq.blN (Fq.ok ?_)
     refine Fq.at_ Try.f13 23 (by kernel_rfl) ?_
     have hmc := hmb.kp kc
     refine ck_r23 hmc.size hc13 (by omega) (fun Ud ⟨kd, hd13⟩ => ?_)
     exact ⟨na - (q + 1), by omega, Ud, q + 1, _, rfl, by omega, rfl, hmc.kp (kd.mono (by omega)), (kd.at_ 12 (by omega)).trans hc12, hd13, hNX, hbv.trans (hbc.mono hbv.size)⟩
   · refine wp_exit ?_
     refine Fq.thX (Fq.thX (Fq.blX (hQ' _ _ ⟨hmb, ?_, hbv⟩)))
     have h1 : (decide (q < na) && decide (e = 0)) = false := hVG.symm.trans hb
     rw [hb12]
     by_cases he0 : e = 0
     · subst he0
       rw [decide_eq_true (show (0 : Nat) = 0 from rfl), Bool.and_true, decide_eq_false_iff_not] at h1
       have hM0 : M = 0 := by
        rw [hme, List.drop_eq_nil_of_le (by rw [hwl, List.length_map]; omega)]
        rfl
       rw [hM0]
     · rw [hme]
       unfold Pg.orW
       rw [if_neg he0]
 have hY6 := hY5.later hb6
 have hW6 := hW5.trans (hb6.mono hW5.size)
 have hA6 := hA5.trans (hb6.mono hA5.size)
 clear hm12 h12c hY5 hW5 hwl hM7
 generalize Pg.wcs p now x j y.2.2.1 = T at *
 generalize Pg.wcs p now x j y.2.2.2 = E at *
 have hG2 : G = Pg.orW (Pg.orW M T) E := by
  rw [hG]
  unfold Pg.orW
  by_cases h0 : M = 0
  · rw [if_pos h0, if_pos h0]
  · rw [if_neg h0, if_neg h0, if_neg h0]
 refine Fq.cut (fun U' v => Ck.Fm U' calls (some ⟨b, o, none⟩) tl tcap bp (i : Nat) wr.heap.size ck ∧ U'[12]? = some (.int .i64 ((Pg.orW M T : Nat) : Int)) ∧ Below v6.heap.size v6 v) (fun Q' hQ' => ?_) (fun U15 v7 ⟨hm15, h12_15, hb7⟩ => ?_)
 · refine wp_seq ?_
   refine Fq.at_ Try.f13 25 (by kernel_rfl) ?_
   refine ck_r25 hm14.size h12d rfl (fun Ux ⟨kx, hsx⟩ => ?_)
   have hmx := hm14.kp (kx.mono (by omega))
   refine Fq.ok ?_
   refine Fq.cond 208 hsx (fun hb => ?_) (fun hb => ?_)
   · have h0 : M = 0 := by simpa using hb
     refine Fq.at_ Try.f13 26 (by kernel_rfl) ?_
     refine ck_r26 hmx.size hmx.s2 hmx.s4 hmx.s5 hmx.s10 hY6.p0 (hY6.f 0 _ rfl) (hY6.f 1 _ rfl) (hY6.f 2 _ rfl) (hY6.f 3 _ rfl) (hY6.f 4 _ rfl) (hY6.f 5 _ rfl) (hY6.x 10 _ rfl) (hTH v6 hW6) (fun U' v ⟨ka, kb, kc⟩ => ?_)
     have hB : (Pg.orW M T) = T := by (first | exact if_pos h0 | (rw [hG2]; exact if_pos h0))
     exact hQ' _ _ ⟨hmx.kp ka, by rw [kb, hB], kc⟩
   · have h0 : ¬ M = 0 := by simpa using hb
     refine Fq.skip ?_
     have hB : (Pg.orW M T) = M := by (first | exact if_neg h0 | (rw [hG2]; exact if_neg h0))
     exact hQ' _ _ ⟨hmx, by rw [kx.at_ 12 (by omega), h12d, hB], Below.refl _ _⟩
 have hY7 := hY6.later hb7
 have hW7 := hW6.trans (hb7.mono hW6.size)
 have hA7 := hA6.trans (hb7.mono hA6.size)
 generalize Pg.orW M T = MT at *
 refine Fq.cut (fun U' v => Ck.Fm U' calls (some ⟨b, o, none⟩) tl tcap bp (i : Nat) wr.heap.size ck ∧ U'[12]? = some (.int .i64 ((G : Nat) : Int)) ∧ Below v7.heap.size v7 v) (fun Q' hQ' => ?_) (fun U16 v8 ⟨hm16, h12_16, hb8⟩ => ?_)
 · refine wp_seq ?_
   refine Fq.at_ Try.f13 27 (by kernel_rfl) ?_
   refine ck_r27 hm15.size h12_15 rfl (fun Ux ⟨kx, hsx⟩ => ?_)
   have hmx := hm15.kp (kx.mono (by omega))
   refine Fq.ok ?_
   refine Fq.cond 216 hsx (fun hb => ?_) (fun hb => ?_)
   · have h0 : MT = 0 := by simpa using hb
     refine Fq.at_ Try.f13 28 (by kernel_rfl) ?_
     refine ck_r28 hmx.size hmx.s2 hmx.s4 hmx.s5 hmx.s10 hY7.p0 (hY7.f 0 _ rfl) (hY7.f 1 _ rfl) (hY7.f 2 _ rfl) (hY7.f 3 _ rfl) (hY7.f 4 _ rfl) (hY7.f 5 _ rfl) (hY7.x 11 _ rfl) (hEL v7 hW7) (fun U' v ⟨ka, kb, kc⟩ => ?_)
     have hB : (G) = E := by (first | exact if_pos h0 | (rw [hG2]; exact if_pos h0))
     exact hQ' _ _ ⟨hmx.kp ka, by rw [kb, hB], kc⟩
   · have h0 : ¬ MT = 0 := by simpa using hb
     refine Fq.skip ?_
     have hB : (G) = MT := by (first | exact if_neg h0 | (rw [hG2]; exact if_neg h0))
     exact hQ' _ _ ⟨hmx, by rw [kx.at_ 12 (by omega), h12_15, hB], Below.refl _ _⟩
 have hY8 := hY7.later hb8
 have hW8 := hW7.trans (hb8.mono hW7.size)
 have hA8 := hA7.trans (hb8.mono hA7.size)
 refine wp_seq ?_
 refine Fq.at_ Try.f13 29 (by kernel_rfl) ?_
 refine ck_r29 hm16.size h12_16 rfl (fun U17 ⟨k17, h224⟩ => ?_)
 have hm17 := hm16.kp (k17.mono (by omega))
 refine Fq.ok ?_
 refine Fq.cond 224 h224 (fun hb => ?_) (fun hb => ?_)
 · have hGn : G ≠ 0 := by simpa using hb
   refine wp_seq ?_
   refine Fq.at_ Try.f13 30 (by kernel_rfl) ?_
   refine ck_r30 hm17.size ((k17.at_ 12 (by omega)).trans h12_16) (fun U18 ⟨k18, h8⟩ => ?_)
   refine Fq.ok (wp_ret ?_)
   repeat (first | with_reducible refine Fq.thR ?_ | with_reducible refine Fq.blR ?_)
   exact hQr _ _ h8 hA8 hGn
 · have hGn : G = 0 := by simpa using hb
   refine Fq.skip ?_
   exact hQn _ _ hm17.f0 hA8 hGn
end Go.Proofs.Ytpfogjplnodacaa
namespace Go.Proofs.Ytpfogjplnodacaa
open Go.RowKit
set_option linter.unusedVariables false
theorem ck_loop (qa : Option Addr) (ql qc : Nat) (calls fp rk rn : Int) (sa fa ra : Option Addr) (sl sc fl fc rl rc : Nat) (ad : Option Addr) (tl tcap : Nat) (htl : tl ≤ 35184372088832) (w : World) (R : Nat) (S : Nat → Prop) (hS0 : S 0) (hend : S tl → R = 0)
  (hround : ∀ i, i < tl → S i → ∀ (wr : World), Below ((w.alloc (Obj.cells #[.slice qa ql qc] 29)).alloc (Obj.cells #[.int .i64 fp, .slice sa sl sc, .slice fa fl fc, .int .i64 rk, .int .i64 rn, .slice ra rl rc] 44)).heap.size ((w.alloc (Obj.cells #[.slice qa ql qc] 29)).alloc (Obj.cells #[.int .i64 fp, .slice sa sl sc, .slice fa fl fc, .int .i64 rk, .int .i64 rn, .slice ra rl rc] 44)) wr → ∀ (U : Array Value), Ck.F0 U calls ad tl tcap w.heap.size i → ∀ Q : Exit → Act → World → Prop, (∀ U' v, Ck.F0 U' calls ad tl tcap w.heap.size i → Below wr.heap.size wr v → S (i + 1) → Q .normal ⟨U', []⟩ v) → (∀ U' v, U'[8]? = some (.int .i64 (R : Nat)) → Below wr.heap.size wr v → Q .ret ⟨U', []⟩ v) → (Fq.blk Try.f13 1).wp Try.prog Q ⟨U, []⟩ wr) :
  Calls Try.prog 13 #[.agg #[.slice qa ql qc], .agg #[.int .i64 fp, .slice sa sl sc, .slice fa fl fc, .int .i64 rk, .int .i64 rn, .slice ra rl rc], .int .i64 calls, .slice ad tl tcap] w fun r w' => r = .returned (.int .i64 (R : Nat)) ∧ Below w.heap.size w w' := by
 have hb0 := ((Below.refl w.heap.size w).alloc (Nat.le_refl _) (Obj.cells #[.slice qa ql qc] 29)).alloc (by simp) (Obj.cells #[.int .i64 fp, .slice sa sl sc, .slice fa fl fc, .int .i64 rk, .int .i64 rn, .slice ra rl rc] 44)
 refine calls_of_wp Try.func13 rfl ?_
 rw [show Try.f13.ntmps - (#[.agg #[.slice qa ql qc], .agg #[.int .i64 fp, .slice sa sl sc, .slice fa fl fc, .int .i64 rk, .int .i64 rn, .slice ra rl rc], .int .i64 calls, .slice ad tl tcap] : Array Value).size = 222 by rw [Try.ntmps13]; rfl]
 obtain ⟨T0, hT0⟩ : ∃ T0, T0 = #[.agg #[.slice qa ql qc], .agg #[.int .i64 fp, .slice sa sl sc, .slice fa fl fc, .int .i64 rk, .int .i64 rn, .slice ra rl rc], .int .i64 calls, .slice ad tl tcap] ++ Array.replicate 222 undef := ⟨_, rfl⟩
 have hT : T0.size = 226 := by rw [hT0, Array.size_append, Array.size_replicate]; rfl
 have s0 : T0[0]? = some (.agg #[.slice qa ql qc]) := by rw [hT0]; simp
 have s1 : T0[1]? = some (.agg #[.int .i64 fp, .slice sa sl sc, .slice fa fl fc, .int .i64 rk, .int .i64 rn, .slice ra rl rc]) := by rw [hT0]; simp
 have s2 : T0[2]? = some (.int .i64 calls) := by rw [hT0]; simp
 have s3 : T0[3]? = some (.slice ad tl tcap) := by rw [hT0]; simp
 rw [← hT0]
 clear hT0
 refine wp_seq ?_
 refine Fq.at_ Try.f13 0 (by kernel_rfl) ?_
 refine ck_r0 hT s0 s1 (fun U1 ⟨k1, h4, h5⟩ => ?_)
 generalize (w.alloc (Obj.cells #[.slice qa ql qc] 29)).alloc (Obj.cells #[.int .i64 fp, .slice sa sl sc, .slice fa fl fc, .int .i64 rk, .int .i64 rn, .slice ra rl rc] 44) = W0 at *
 refine Fq.ok ?_
 refine wp_seq (wp_seq ?_)
 refine Fq.at_ Try.f13 1 (by kernel_rfl) ?_
 refine ck_r1 (k1.size.trans hT) (fun U2 ⟨k2, h9⟩ => ?_)
 have hF : Ck.F0 U2 calls ad tl tcap w.heap.size 0 := ⟨k2.size.trans (k1.size.trans hT), (k2.at_ 2 (by omega)).trans ((k1.at_ 2 (by omega)).trans s2), (k2.at_ 3 (by omega)).trans ((k1.at_ 3 (by omega)).trans s3), (k2.at_ 4 (by omega)).trans h4, (k2.at_ 5 (by omega)).trans h5, h9⟩
 refine Fq.ok ?_
 refine wp_block ?_
 refine wp_loop_ghost (fun d a v => ∃ (U' : Array Value) (i : Nat), a = ⟨U', []⟩ ∧ i ≤ tl ∧ d = tl - i ∧ Ck.F0 U' calls ad tl tcap w.heap.size i ∧ S i ∧ Below W0.heap.size W0 v) tl ⟨U2, 0, rfl, Nat.zero_le _, rfl, hF, hS0, Below.refl _ _⟩ ?_
 rintro d a v ⟨Ua, i, rfl, hi, rfl, hFa, hSi, hbv⟩
 refine wp_seq (wp_seq ?_)
 refine Fq.at_ Try.f13 2 (by kernel_rfl) ?_
 refine ck_r2 hFa.size hFa.s3 hFa.s9 htl rfl (fun Ub ⟨kb, h17⟩ => ?_)
 have hFb := hFa.kp (kb.mono (by omega))
 refine Fq.ok ?_
 refine Fq.cond 17 h17 (fun hb => ?_) (fun hb => ?_)
 · have hlt : i < tl := by have := of_decide_eq_true hb; omega
   refine Fq.skip ?_
   refine Fq.ok ?_
   refine wp_seq (wp_block ?_)
   refine Fq.in_ Try.f13 1 (by kernel_rfl) ?_
   refine hround i hlt hSi v hbv Ub hFb _ (fun Uc vc hFc hbc hSc => ?_) (fun Uc vc h8 hbc => ?_)
   · refine Fq.blN (Fq.ok ?_)
     refine Fq.at_ Try.f13 3 (by kernel_rfl) ?_
     refine ck_r3 hFc.size hFc.s9 (by omega) (fun Ud ⟨kd, hd9⟩ => ?_)
     exact ⟨tl - (i + 1), by omega, Ud, i + 1, rfl, by omega, rfl, ⟨kd.size.trans hFc.size, (kd.at_ 2 (by omega)).trans hFc.s2, (kd.at_ 3 (by omega)).trans hFc.s3, (kd.at_ 4 (by omega)).trans hFc.s4, (kd.at_ 5 (by omega)).trans hFc.s5, hd9⟩, hSc, hbv.trans (hbc.mono hbv.size)⟩
   · repeat (first | with_reducible refine Fq.thR ?_ | with_reducible refine Fq.blR ?_)
     refine Fq.ret rfl h8 ⟨rfl, ?_⟩
     exact (hb0.trans (hbv.mono hb0.size)).trans (hbc.mono (hb0.trans (hbv.mono hb0.size)).size)
 · have hge : i = tl := by have := of_decide_eq_false hb; omega
   subst hge
   refine wp_exit ?_
   refine Fq.thX (Fq.thX (Fq.blX (Fq.ok ?_)))
   refine wp_seq ?_
   refine Fq.at_ Try.f13 31 (by kernel_rfl) ?_
   refine ck_r31 hFb.size (fun Ue ⟨_, h8⟩ => ?_)
   refine Fq.ok (wp_ret ?_)
   refine Fq.ret rfl h8 ⟨by rw [hend hSi]; rfl, hb0.trans (hbv.mono hb0.size)⟩
theorem checkCmds_any {m n : Nat} (qa : Option Addr) (ql qc : Nat) (p : List (Pg.FT m n)) (now : Nat) (x : Pg.FT m n) (calls : Int) (fp rk rn : Int) (sa fa ra : Option Addr) (sl sc fl fc rl rc : Nat) (hnn : ∀ z ∈ x.sizes, 0 ≤ z) (hcl : ∀ z : Int, decide (0 ≤ z ∧ z ≤ calls - 1) = Pg.may now p.length z) (hc0 : 0 ≤ calls) (hc6 : calls ≤ 1000) :
  ∀ (j : Nat) (t : Pg.Sl) (l : List (Pg.CT m j)) (w : World), Pg.RP w m n ⟨qa, ql, qc⟩ p → Pg.RN w ⟨sa, sl, sc⟩ x.sizes → Pg.RS w 12 (Pg.LC w) (Pg.RC w m j) t l →
  Calls Try.prog 13 #[.agg #[.slice qa ql qc], .agg #[.int .i64 fp, .slice sa sl sc, .slice fa fl fc, .int .i64 rk, .int .i64 rn, .slice ra rl rc], .int .i64 calls, .slice t.ad t.len t.cap] w fun r w' => r = .returned (.int .i64 (Pg.wcs p now x j l : Nat)) ∧ Below w.heap.size w w' := by
 intro j
 induction j with
 | zero =>
  intro t l w hp hsz hs
  have hl : l = [] := by
   cases l with
   | nil => rfl
   | cons y r => exact Empty.elim y
  subst hl
  have hlen : t.len = 0 := hs.len
  exact ck_loop qa ql qc calls fp rk rn sa fa ra sl sc fl fc rl rc t.ad t.len t.cap (by omega) w _ (fun _ => True) trivial (fun _ => rfl) (fun i hi => absurd hi (by omega))
 | succ j ih =>
  intro t l w hp hsz hs
  have hlen := hs.len
  have hfew := hs.few
  obtain ⟨g, hg⟩ : ∃ g : Pg.CT m (j + 1) → Nat, g = fun y => Pg.orW (Pg.wcm p now x y) (Pg.orW (Pg.wcs p now x j y.2.2.1) (Pg.wcs p now x j y.2.2.2)) := ⟨_, rfl⟩
  have hR : Pg.wcs p now x (j + 1) l = Pg.first (l.map g) := by rw [hg]; rfl
  have hb0 := ((Below.refl w.heap.size w).alloc (Nat.le_refl _) (Obj.cells #[.slice qa ql qc] 29)).alloc (by simp) (Obj.cells #[.int .i64 fp, .slice sa sl sc, .slice fa fl fc, .int .i64 rk, .int .i64 rn, .slice ra rl rc] 44)
  have p0 : ((w.alloc (Obj.cells #[.slice qa ql qc] 29)).alloc (Obj.cells #[.int .i64 fp, .slice sa sl sc, .slice fa fl fc, .int .i64 rk, .int .i64 rn, .slice ra rl rc] 44)).cell? ⟨w.heap.size, 0, none⟩ = some (.slice qa ql qc) := by go_simp
  have hFB : ∀ i v, [.int .i64 fp, .slice sa sl sc, .slice fa fl fc, .int .i64 rk, .int .i64 rn, .slice ra rl rc][i]? = some v → ((w.alloc (Obj.cells #[.slice qa ql qc] 29)).alloc (Obj.cells #[.int .i64 fp, .slice sa sl sc, .slice fa fl fc, .int .i64 rk, .int .i64 rn, .slice ra rl rc] 44)).cell? ⟨w.heap.size + 1, i, none⟩ = some v := fun i v hv => by
   match i, hv with
   | 0, hv => cases hv; go_simp
   | 1, hv => cases hv; go_simp
   | 2, hv => cases hv; go_simp
   | 3, hv => cases hv; go_simp
   | 4, hv => cases hv; go_simp
   | 5, hv => cases hv; go_simp
   | _ + 6, hv => cases hv
  have hsz0 : ((w.alloc (Obj.cells #[.slice qa ql qc] 29)).alloc (Obj.cells #[.int .i64 fp, .slice sa sl sc, .slice fa fl fc, .int .i64 rk, .int .i64 rn, .slice ra rl rc] 44)).heap.size = w.heap.size + 2 := by simp
  refine ck_loop qa ql qc calls fp rk rn sa fa ra sl sc fl fc rl rc t.ad t.len t.cap (by omega) w _ (fun i => Pg.wcs p now x (j + 1) l = Pg.first ((l.map g).drop i)) (by rw [List.drop_zero]; exact hR) (fun h => by rw [h, List.drop_eq_nil_of_le (by rw [List.length_map]; omega)]; rfl) ?_
  intro i hi hSi wr hbe U hF Q hQn hQr
  have hlt2 : i < l.length := by omega
  have hy := List.getElem?_eq_getElem hlt2
  obtain ⟨b, o, cc, had, hb, hlies, hrd⟩ := hs.at_ i _ hy
  have hRN : Pg.wcs p now x (j + 1) l = if g l[i] = 0 then Pg.first ((l.map g).drop (i + 1)) else g l[i] := by
   rw [hSi, List.drop_eq_getElem_cons (by rw [List.length_map]; exact hlt2), List.getElem_map]
   rfl
  have hbw := hb0.trans (hbe.mono hb0.size)
  rw [had] at hF
  refine ck_round qa ql qc p now x calls fp rk rn sa fa ra sl sc fl fc rl rc hnn hcl hc0 hc6 (fun t l w h1 h2 h3 => ih t l w h1 h2 h3) w hp hsz wr hbw w.heap.size ((hbe.cell (p := ⟨w.heap.size, 0, none⟩) (by show w.heap.size < ((w.alloc (Obj.cells #[.slice qa ql qc] 29)).alloc (Obj.cells #[.int .i64 fp, .slice sa sl sc, .slice fa fl fc, .int .i64 rk, .int .i64 rn, .slice ra rl rc] 44)).heap.size; omega)).trans p0) (fun i v hv => (hbe.cell (p := ⟨w.heap.size + 1, i, none⟩) (by show w.heap.size + 1 < ((w.alloc (Obj.cells #[.slice qa ql qc] 29)).alloc (Obj.cells #[.int .i64 fp, .slice sa sl sc, .slice fa fl fc, .int .i64 rk, .int .i64 rn, .slice ra rl rc] 44)).heap.size; omega)).trans (hFB i v hv)) (by have := hbe.size; omega) b o i t.len t.cap hi (by omega) cc l[i] (hlies.later hbw (Nat.le_refl _) hb) hrd U hF Q (g l[i]) (by rw [hg]) (fun U' v hF' hb' hG0 => ?_) (fun U' v h8 hb' hGn => ?_)
  · exact hQn U' v (by rw [had]; exact hF') hb' (by rw [hRN, if_pos hG0])
  · exact hQr U' v (by rw [hRN, if_neg hGn]; exact h8) hb'
end Go.Proofs.Ytpfogjplnodacaa
