/-
  Contracts of the checker's expr, isLast, mayCall, and of countCmds. By the verifier.
-/
import Derived.Test.YtpfogjplnodacaaGreatPWx
set_option maxHeartbeats 1600000
namespace Go.Proofs.YtpfogjplnodacaaGreat
open Go.RowKit
set_option linter.unusedVariables false
section
variable {m n : Nat} {s : Pg.Sl} {p : List (Pg.FT m n)} {now : Nat} {f : Pg.F} {x : Pg.FT m n}
theorem expr_any (k : Nat) (e : Pg.E) (y : Pg.XT k) (w : World) (hcx : Pg.Cx w m n s p now f x) (hre : Pg.RX w k e y) :
  Calls Tryz.prog 118 #[.agg #[.slice s.ad s.len s.cap, .int .i64 (now : Nat)], e.val] w fun r w' => r = Pg.ends (Pg.chkX x.sizes k y) (.tuple #[]) ∧ Below w.heap.size w w' := by
 have hb0 := ((Below.refl w.heap.size w).alloc (Nat.le_refl _) (Obj.cells #[.slice s.ad s.len s.cap, .int .i64 (now : Nat)] 146)).alloc (by simp) (Obj.cells #[.int .i64 e.k, .int .i64 e.n, .slice e.args.ad e.args.len e.args.cap] 69)
 have HS5 := hide (show Pg.S5 w.heap.size (.slice s.ad s.len s.cap) (.int .i64 (now : Nat)) (.int .i64 e.k) (.int .i64 e.n) (.slice e.args.ad e.args.len e.args.cap) w ((w.alloc (Obj.cells #[.slice s.ad s.len s.cap, .int .i64 (now : Nat)] 146)).alloc (Obj.cells #[.int .i64 e.k, .int .i64 e.n, .slice e.args.ad e.args.len e.args.cap] 69)) from ⟨by go_simp, by go_simp, by go_simp, by go_simp, by go_simp, hb0⟩)
 have HCP := hide (countParts_any k e y _ 0 (hre.later hb0 (Nat.le_refl _)) (by omega))
 have HPA := hide (fun (W : World) (hW : Below w.heap.size w W) => part_any k e y W (hcx.later hW (Nat.le_refl _)) (hre.later hW (Nat.le_refl _)))
 have HC := hide (show Pg.chkX x.sizes k y = if 15 < Pg.parts k y then 2 else Pg.wx x.sizes k y from rfl)
 rw [Nat.zero_add] at HCP
 generalize Pg.chkX x.sizes k y = R at *
 generalize Pg.wx x.sizes k y = W1 at *
 generalize Pg.parts k y = P at *
 clear hcx hre hb0
 unfold Pg.E.val at *
 go_enter Tryz.func118, Tryz.ntmps118
 go_upto_region 1 with fail
 generalize ((w.alloc (Obj.cells #[.slice s.ad s.len s.cap, .int .i64 (now : Nat)] 146)).alloc (Obj.cells #[.int .i64 e.k, .int .i64 e.n, .slice e.args.ad e.args.len e.args.cap] 69)) = W0 at *
 obtain ⟨a0, a1, e0, e1, e2, hbw⟩ := unhide HS5
 have HBW := hide hbw
 clear hbw
 go_wp2_with fail
 refine (unhide HCP).mono ?_
 rintro r w1 ⟨hr1, hb1⟩
 by_cases h15 : 15 < P
 · rw [if_pos h15, Pg.ends_no (by decide)] at hr1
   subst hr1
   have HR := hide (show R = 2 by rw [unhide HC, if_pos h15])
   have HB1 := hide ((unhide HBW).trans (hb1.mono (unhide HBW).size))
   clear hb1 h15
   go_wp2_with fail
   exact ⟨rfl, by rw [unhide HR]; exact (Pg.ends_no (by decide)).symm, unhide HB1⟩
 · rw [if_neg h15, Pg.ends_ok rfl] at hr1
   subst hr1
   have HR := hide (show R = W1 by rw [unhide HC, if_neg h15])
   obtain ⟨f0, f1, f2, f3, f4, hB1⟩ := Pg.S5.below (unhide HS5) hb1
   have HB1 := hide hB1
   clear hb1 hB1 h15 a0 a1 e0 e1 e2
   go_wp2_with fail
   refine ((unhide HPA) _ (unhide HB1)).mono ?_
   rintro r w2 ⟨hr2, hb2⟩
   have HB2 := hide ((unhide HB1).trans (hb2.mono (unhide HB1).size))
   clear hb2
   by_cases hw0 : W1 = 0
   · rw [Pg.ends_ok hw0] at hr2
     subst hr2
     have HZ := hide (show R = 0 by rw [unhide HR]; exact hw0)
     clear hw0
     go_wp2_with fail
     go_end0
     exact ⟨by rw [unhide HZ]; exact (Pg.ends_ok rfl).symm, unhide HB2⟩
   · rw [Pg.ends_no hw0] at hr2
     subst hr2
     have HZ := hide hw0
     clear hw0
     go_wp2_with fail
     exact ⟨rfl, by rw [unhide HR]; exact (Pg.ends_no (unhide HZ)).symm, unhide HB2⟩
theorem isLast_any (w : World) (hl : s.len ≤ 35184372088832) :
  Calls Tryz.prog 115 #[.agg #[.slice s.ad s.len s.cap, .int .i64 (now : Nat)]] w fun r w' => r = .returned (.bool (decide (now + 1 = s.len))) ∧ Below w.heap.size w w' := by
 have HB := hide ((Below.refl w.heap.size w).alloc (Nat.le_refl _) (Obj.cells #[.slice s.ad s.len s.cap, .int .i64 (now : Nat)] 146))
 have HD := hide (show decide (now + 1 = s.len) = ((now : Int) == (s.len : Int) - 1) by rw [Bool.eq_iff_iff]; simp; omega)
 generalize decide (now + 1 = s.len) = D at *
 go_enter Tryz.func115, Tryz.ntmps115
 go_wp2_with fail
 go_ret
 exact ⟨ret_bool (unhide HD).symm, unhide HB⟩
def Pg.may (now len : Nat) (z : Int) : Bool := decide (0 ≤ z ∧ z ≤ (now : Int) ∧ z < (len : Int) - 1)
theorem mayCall_any (w : World) (z : Int) (hl : s.len ≤ 35184372088832) :
  Calls Tryz.prog 123 #[.agg #[.slice s.ad s.len s.cap, .int .i64 (now : Nat)], .int .i64 z] w fun r w' => r = .returned (.bool (Pg.may now s.len z)) ∧ Below w.heap.size w w' := by
 have HB := hide ((Below.refl w.heap.size w).alloc (Nat.le_refl _) (Obj.cells #[.slice s.ad s.len s.cap, .int .i64 (now : Nat)] 146))
 have HD := hide (show Pg.may now s.len z = decide (0 ≤ z ∧ z ≤ (now : Int) ∧ z < (s.len : Int) - 1) from rfl)
 generalize Pg.may now s.len z = D at *
 go_enter Tryz.func123, Tryz.ntmps123
 by_cases h0 : z ≥ 0
 · by_cases h1 : z ≤ (now : Int)
   · have HE := hide (show D = decide (z < (s.len : Int) - 1) by rw [unhide HD]; exact decide_eq_decide.2 ⟨fun h => h.2.2, fun h => ⟨h0, h1, h⟩⟩)
     go_wp2_with fail
     go_ret
     exact ⟨ret_bool (unhide HE).symm, unhide HB⟩
   · have HE := hide (show D = false by rw [unhide HD]; simp; omega)
     go_wp2_with fail
     go_ret
     exact ⟨ret_bool (unhide HE).symm, unhide HB⟩
 · have HE := hide (show D = false by rw [unhide HD]; simp; omega)
   go_wp2_with fail
   go_ret
   exact ⟨ret_bool (unhide HE).symm, unhide HB⟩
end
end Go.Proofs.YtpfogjplnodacaaGreat
