/-
  The contract of scope's (checker).result. By the verifier.
-/
import Derived.Test.YtpfogjplnodacaaPExpr
set_option maxHeartbeats 1600000
namespace Go.Proofs.Ytpfogjplnodacaa
open Go.RowKit
set_option linter.unusedVariables false
section
variable {m n : Nat} {s : Pg.Sl} {p : List (Pg.FT m n)} {now : Nat} {f : Pg.F} {x : Pg.FT m n}
def Pg.wres (last : Bool) (m n : Nat) (x : Pg.FT m n) : Nat := if last then (if Pg.isX m x.res then 1 else 0) else Pg.chkX x.sizes m x.res
theorem result_any (w : World) (h : Pg.Cx w m n s p now f x) :
  Calls Try.prog 47 #[.agg #[.slice s.ad s.len s.cap, .int .i64 (now : Nat)]] w fun r w' => r = Pg.ends (Pg.wres (decide (now + 1 = s.len)) m n x) (.tuple #[]) ∧ Below w.heap.size w w' := by
 obtain ⟨h1, h2, h3⟩ := h.few
 have hb0 := (Below.refl w.heap.size w).alloc (Nat.le_refl _) (Obj.cells #[.slice s.ad s.len s.cap, .int .i64 (now : Nat)] 79)
 have hb1 := hb0.alloc (by simp) (Obj.cells #[.int .i64 f.res.k, .int .i64 f.res.n, .slice f.res.args.ad f.res.args.len f.res.args.cap] 42)
 have HS5 := hide (show Pg.S5 w.heap.size (.slice s.ad s.len s.cap) (.int .i64 (now : Nat)) (.int .i64 f.res.k) (.int .i64 f.res.n) (.slice f.res.args.ad f.res.args.len f.res.args.cap) w ((w.alloc (Obj.cells #[.slice s.ad s.len s.cap, .int .i64 (now : Nat)] 79)).alloc (Obj.cells #[.int .i64 f.res.k, .int .i64 f.res.n, .slice f.res.args.ad f.res.args.len f.res.args.cap] 42)) from ⟨by go_simp, by go_simp, by go_simp, by go_simp, by go_simp, hb1⟩)
 obtain ⟨b, o, had, hb, hl⟩ := (h.later hb0 (Nat.le_refl _)).lies
 have hi0 : (0 : Int) ≤ (now : Int) := by omega
 have hi1 : (now : Int) < (s.len : Int) := by omega
 have hl6 : s.len ≤ 35184372088832 := by omega
 have l3 := hl.c3
 have l4 := hl.c4
 have l5 := hl.c5
 have HLA := hide (fun (W : World) => isLast_any (s := s) (now := now) W hl6)
 have HTH := hide (fun (W : World) (hW : Below w.heap.size w W) => isThere_any m f.res x.res W (h.rf.res.later hW (Nat.le_refl _)))
 have HEX := hide (fun (W : World) (hW : Below w.heap.size w W) => expr_any m f.res x.res W (h.later hW (Nat.le_refl _)) (h.rf.res.later hW (Nat.le_refl _)))
 have HC := hide (show Pg.wres (decide (now + 1 = s.len)) m n x = if decide (now + 1 = s.len) then (if Pg.isX m x.res then 1 else 0) else Pg.chkX x.sizes m x.res from rfl)
 generalize Pg.wres (decide (now + 1 = s.len)) m n x = R at *
 generalize decide (now + 1 = s.len) = L at *
 generalize Pg.isX m x.res = I at *
 generalize Pg.chkX x.sizes m x.res = C at *
 clear h h1 h2 h3 hb0 hb1 hl
 unfold Pg.E.val at *
 obtain ⟨sa, sl, sc⟩ := s
 dsimp only at *
 subst had
 go_enter Try.func47, Try.ntmps47
 go_wp2_with fail
 clear l3 l4 l5 hb
 generalize ((w.alloc (Obj.cells #[.slice (some ⟨b, o, none⟩) sl sc, .int .i64 (now : Nat)] 79)).alloc (Obj.cells #[.int .i64 f.res.k, .int .i64 f.res.n, .slice f.res.args.ad f.res.args.len f.res.args.cap] 42)) = W0 at *
 refine ((unhide HLA) _).mono ?_
 rintro r w1 ⟨rfl, hb1⟩
 have HS1 := hide (Pg.S5.below (unhide HS5) hb1)
 obtain ⟨f0, f1, f2, f3, f4, hB1⟩ := unhide HS1
 have HB1 := hide hB1
 clear hb1 hB1
 cases L
 · have HR := hide (show R = C by rw [unhide HC]; rfl)
   go_wp2_with fail
   refine ((unhide HEX) _ (unhide HB1)).mono ?_
   rintro r w2 ⟨hr2, hb2⟩
   have HB2 := hide ((unhide HB1).trans (hb2.mono (unhide HB1).size))
   clear hb2
   by_cases hw0 : C = 0
   · rw [Pg.ends_ok hw0] at hr2
     subst hr2
     have HZ := hide (show R = 0 by rw [unhide HR]; exact hw0)
     clear hw0
     go_wp2_with fail
     go_end0
     exact ⟨(Pg.ends_ok (unhide HZ)).symm, unhide HB2⟩
   · rw [Pg.ends_no hw0] at hr2
     subst hr2
     have HZ := hide hw0
     clear hw0
     go_wp2_with fail
     exact ⟨rfl, by rw [unhide HR]; exact (Pg.ends_no (unhide HZ)).symm, unhide HB2⟩
 · have HR := hide (show R = if I then 1 else 0 by rw [unhide HC]; rfl)
   go_wp2_with fail
   refine ((unhide HTH) _ (unhide HB1)).mono ?_
   rintro r w2 ⟨rfl, hb2⟩
   have HB2 := hide ((unhide HB1).trans (hb2.mono (unhide HB1).size))
   clear hb2
   cases I
   · have HZ := hide (show R = 0 by rw [unhide HR]; rfl)
     go_wp2_with fail
     refine (refuse_no _ _).mono ?_
     rintro r w3 ⟨rfl, hw3⟩
     subst hw3
     go_wp2_with fail
     try simp only [Exit.inBlock, Exit.then]
     refine bodyPost_ret (results_none rfl _ _ _) rfl ?_
     exact ⟨(Pg.ends_ok (unhide HZ)).symm, unhide HB2⟩
   · have HZ := hide (show R = 1 by rw [unhide HR]; rfl)
     go_wp2_with fail
     refine (refuse_yes 1 _).mono ?_
     rintro r w3 ⟨rfl, hw3⟩
     subst hw3
     go_wp2_with fail
     exact ⟨rfl, by rw [unhide HZ]; exact (Pg.ends_no (by decide)).symm, unhide HB2⟩
end
end Go.Proofs.Ytpfogjplnodacaa
