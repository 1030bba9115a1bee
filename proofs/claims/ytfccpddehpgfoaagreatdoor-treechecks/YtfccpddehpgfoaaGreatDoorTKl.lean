/-
  TreeChecks: the walk of the law. By the verifier.
-/
import Derived.Test.YtfccpddehpgfoaaGreatDoorTBg
import Derived.Test.YtfccpddehpgfoaaGreatDoorUL
import Derived.Deep.RegionHeld3
set_option maxRecDepth 100000
set_option maxHeartbeats 3200000
namespace Go.Proofs.YtfccpddehpgfoaaGreatDoor
open Go.RowKit
set_option linter.unusedVariables false
theorem tchecks_walk {m n : Nat} (s : Tk.Sl) (l : List (Tk.FT m n)) (w : World) (hs : Tk.RT w m n s l) : Calls Tryz.prog 3 #[.agg #[.slice s.ad s.len s.cap]] w fun r w' => r = .returned (.bool true) ∧ Below w.heap.size w w' := by
 have hbA := (Below.refl w.heap.size w).alloc (Nat.le_refl _) (Obj.cells #[.slice s.ad s.len s.cap] 24)
 have HB := hide hbA
 have hRT := Tk.RT.later hs hbA (Nat.le_refl _)
 have hsa : (w.alloc (Obj.cells #[.slice s.ad s.len s.cap] 24)).heap.size = w.heap.size + 1 := by simp
 have hc0 : (w.alloc (Obj.cells #[.slice s.ad s.len s.cap] 24)).cell? ⟨w.heap.size, 0, none⟩ = some (.slice s.ad s.len s.cap) := by go_simp
 have HC0 := hide hc0
 have HCH := hide (fun (V : World) (hV : Below (w.alloc (Obj.cells #[.slice s.ad s.len s.cap] 24)).heap.size (w.alloc (Obj.cells #[.slice s.ad s.len s.cap] 24)) V) => tCheck_any s l V (Tk.RT.later hRT hV (Nat.le_refl _)))
 have HCR := hide (fun (V : World) (hV : Below (w.alloc (Obj.cells #[.slice s.ad s.len s.cap] 24)).heap.size (w.alloc (Obj.cells #[.slice s.ad s.len s.cap] 24)) V) => refCheckTree_any s l V (Tk.RT.later hRT hV (Nat.le_refl _)))
 generalize Tk.chkT l = ck at *
 clear hs hbA hc0 hRT
 go_enter Tryz.func3, Tryz.ntmps3
 (try simp only [List.append_eq, List.cons_append, List.nil_append])
 go_upto_region 1 with fail
 generalize w.alloc (Obj.cells #[.slice s.ad s.len s.cap] 24) = wa at *
 have HKM := hide (show ∀ V : World, Below wa.heap.size wa V → (Below wa.heap.size wa V ∧ V.cell? ⟨w.heap.size, 0, none⟩ = some (.slice s.ad s.len s.cap)) from fun V hV => ⟨hV, (hV.cell (p := ⟨w.heap.size, 0, none⟩) (by show w.heap.size < _; omega)).trans (unhide HC0)⟩)
 go_cut [2] (fun v V => v = .bool true ∧ Below wa.heap.size wa V)
 case first =>
  go_region_held3 (fun V => Below wa.heap.size wa V ∧ V.cell? ⟨w.heap.size, 0, none⟩ = some (.slice s.ad s.len s.cap))
   (first | assumption | exact (unhide HKM) _ ((Below.refl _ _).drew) | exact (unhide HKM) _ (Below.trans (And.left (by assumption)) ((unhide HB5).mono (Below.size (And.left (by assumption))))))
   (first
    | (go_at_call 9; refine (treeBegun_any _).mono ?_; rintro r w5 ⟨rfl, hb5⟩; have HB5 := hide hb5; clear hb5)
    | (go_at_call 10; refine ((unhide HCH) _ ?_).mono ?_; exact And.left (by assumption); rintro r w5 ⟨rfl, hb5⟩; have HB5 := hide hb5; clear hb5)
    | (go_at_call 11; refine ((unhide HCR) _ ?_).mono ?_; exact And.left (by assumption); rintro r w5 ⟨rfl, hb5⟩; have HB5 := hide hb5; clear hb5))
  all_goals
   go_wp2_with fail
   go_meet
   case rel => exact ⟨by simp, And.left (by assumption)⟩
 case rest =>
  obtain ⟨rfl, hb9⟩ := hcut
  have HB9 := hide ((unhide HB).trans (hb9.mono (unhide HB).size))
  clear hb9
  go_wp2_with fail
  go_ret
  exact ⟨rfl, unhide HB9⟩
end Go.Proofs.YtfccpddehpgfoaaGreatDoor
