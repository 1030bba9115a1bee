/-
  Contracts of tree's Check: exprFits, fieldsOf. By the verifier.
-/
import Derived.Test.YtfccpddehpgfoaaGreatDoorTBase
set_option maxHeartbeats 1600000
namespace Go.Proofs.YtfccpddehpgfoaaGreatDoor
open Go.RowKit
set_option linter.unusedVariables false
theorem exprFits_any (n : Nat) (e : Tk.E) (x : Tk.ET n) (named : Bool) (w : World) (h : Tk.RE w n e x) :
  Calls Tryz.prog 106 #[e.val, .bool named] w fun r w' => r = .returned (.bool (Tk.exprFit n x named)) ∧ Below w.heap.size w w' := by
 have hbA := (Below.refl w.heap.size w).alloc (Nat.le_refl _) (Obj.cells #[.int .i64 e.k, .int .i64 e.a, .int .i64 e.n, .string e.nm, .slice e.args.ad e.args.len e.args.cap] 52)
 have HB := hide hbA
 cases named
 · obtain ⟨n, rfl⟩ : ∃ m, n = m + 1 := by
    cases n with
    | zero => exact absurd h id
    | succ m => exact ⟨m, rfl⟩
   obtain ⟨⟨f1, f2, f3, f4, f5⟩, hs⟩ := h
   have hx : Tk.exprFit (n + 1) x false = ((e.k == 0) && (e.n == 0) && e.nm.toList.isEmpty && ((e.args.len : Int) == 0)) := by
    show (decide (x.1.1 = 0) && decide (x.1.2.2.1 = 0) && x.1.2.2.2.toList.isEmpty && decide (x.2.length = 0)) = _
    rw [← f1, ← f3, ← f4, ← hs.len]
    have e1 : ∀ z : Int, (z == 0) = decide (z = 0) := fun z => rfl
    rw [e1, e1, e1]
    congr 1
    rw [decide_eq_decide]
    omega
   rw [hx]
   clear hx hs f1 f2 f3 f4 f5 hbA
   unfold Tk.E.val
   cases h1 : (e.k == 0)
   · go_enter Tryz.func106, Tryz.ntmps106
     go_wp2_with fail
     go_ret
     exact ⟨rfl, unhide HB⟩
   · cases h2 : (e.n == 0)
     · go_enter Tryz.func106, Tryz.ntmps106
       go_wp2_with fail
       go_ret
       exact ⟨rfl, unhide HB⟩
     · cases h3 : e.nm.toList.isEmpty
       · go_enter Tryz.func106, Tryz.ntmps106
         go_wp2_with fail
         go_ret
         exact ⟨rfl, unhide HB⟩
       · go_enter Tryz.func106, Tryz.ntmps106
         go_wp2_with fail
         go_ret
         exact ⟨rfl, unhide HB⟩
 · have HI := hide (isExpr_any n e x _ (h.later hbA (Nat.le_refl _)))
   have hx : Tk.exprFit n x true = Tk.exprB n x := rfl
   rw [hx]
   clear h hbA hx
   generalize Tk.exprB n x = y at *
   unfold Tk.E.val at *
   go_enter Tryz.func106, Tryz.ntmps106
   go_wp2_with fail
   refine (unhide HI).mono ?_
   rintro r w1 ⟨rfl, hb1⟩
   have HB1 := hide ((unhide HB).trans (hb1.mono (unhide HB).size))
   clear hb1
   go_wp2_with fail
   go_ret
   exact ⟨rfl, unhide HB1⟩
end Go.Proofs.YtfccpddehpgfoaaGreatDoor
