/-
  Contracts of package code's haveAll, areSizes and Check. By the verifier.
-/
import Derived.Test.YtpfogjplnodacaaKAll
set_option maxHeartbeats 800000
namespace Go.Proofs.Ytpfogjplnodacaa
open Go.RowKit
set_option linter.unusedVariables false
theorem hallA1 (z : Int) (bc : Nat) (si : Pg.Sl) (bx : Nat) (w : World) (h0 : w.cell? ⟨bc, 0, none⟩ = some (.slice si.ad si.len si.cap)) (hl : si.len ≤ 35184372088832) (hb : w.cell? ⟨bx, 0, none⟩ = some (.func (.func 18) #[] #[.pointer (some ⟨bc, 0, none⟩)])) : Calls Try.prog 35 #[.int .i64 z, .pointer (some ⟨bx, 0, none⟩)] w fun r w' => r = .returned (.bool (Kd.noAt si.len z)) ∧ Below w.heap.size w w' := by
 have HW := hide ((check1_any z bc si w h0 hl).mono (fun r w1 h => (⟨h.1, h.2 ▸ Below.refl _ _⟩ : r = .returned (.bool (!Kd.noAt si.len z)) ∧ Below w.heap.size w w1)))
 generalize Kd.noAt si.len z = D at *
 go_enter Try.func35, Try.ntmps35
 go_wp2_with fail
 refine (unhide HW).mono ?_
 rintro r w1 ⟨rfl, hb1⟩
 have HB := hide hb1
 clear hb1
 go_wp2_with fail
 go_ret
 exact ⟨ret_bool (by simp), unhide HB⟩
theorem hallB1 (z : Int) (bx : Nat) (w : World)  (hb : w.cell? ⟨bx, 0, none⟩ = some (.func (.func 39) #[] #[])) : Calls Try.prog 35 #[.int .i64 z, .pointer (some ⟨bx, 0, none⟩)] w fun r w' => r = .returned (.bool (Pg.noSize z)) ∧ Below w.heap.size w w' := by
 have HW := hide ((areSizes1_any z w).mono (fun r w1 h => (⟨h.1, h.2 ▸ Below.refl _ _⟩ : r = .returned (.bool (!Pg.noSize z)) ∧ Below w.heap.size w w1)))
 generalize Pg.noSize z = D at *
 go_enter Try.func35, Try.ntmps35
 go_wp2_with fail
 refine (unhide HW).mono ?_
 rintro r w1 ⟨rfl, hb1⟩
 have HB := hide hb1
 clear hb1
 go_wp2_with fail
 go_ret
 exact ⟨ret_bool (by simp), unhide HB⟩
theorem hallA (bc : Nat) (si : Pg.Sl) (s : Pg.Sl) (l : List Int) (w : World) (hr : Pg.RN w s l) (h0 : w.cell? ⟨bc, 0, none⟩ = some (.slice si.ad si.len si.cap)) (hl : si.len ≤ 35184372088832) : Calls Try.prog 17 #[.slice s.ad s.len s.cap, .func (.func 18) #[] #[.pointer (some ⟨bc, 0, none⟩)]] w fun r w' => r = .returned (.bool (!l.any (Kd.noAt si.len))) ∧ Below w.heap.size w w' := by
 have hb0 := (Below.refl w.heap.size w).alloc (Nat.le_refl _) (Obj.cells #[.func (.func 18) #[] #[.pointer (some ⟨bc, 0, none⟩)]] 56)
 have q0 : (w.alloc (Obj.cells #[.func (.func 18) #[] #[.pointer (some ⟨bc, 0, none⟩)]] 56)).cell? ⟨w.heap.size, 0, none⟩ = some (.func (.func 18) #[] #[.pointer (some ⟨bc, 0, none⟩)]) := by go_simp
 have hlt := World.block_lt_of_cell? _ _ q0
 have HC := hide (kcontains_any (Kd.noAt si.len) w.heap.size s l _ (hr.later hb0 (Nat.le_refl _)) (fun z V hV => hallA1 z bc si w.heap.size V ((hV.cell (p := ⟨bc, 0, none⟩) (Nat.lt_of_lt_of_le (World.block_lt_of_cell? _ _ h0) hb0.size)).trans ((hb0.cell (p := ⟨bc, 0, none⟩) (World.block_lt_of_cell? _ _ h0)).trans h0)) hl ((hV.cell (p := ⟨w.heap.size, 0, none⟩) hlt).trans q0)))
 have HB0 := hide hb0
 generalize l.any (Kd.noAt si.len) = D at *
 clear hr hb0
 go_enter Try.func17, Try.ntmps17
 go_wp2_with fail
 refine (unhide HC).mono ?_
 rintro r w1 ⟨rfl, hb1⟩
 have HB := hide ((unhide HB0).trans (hb1.mono (unhide HB0).size))
 clear hb1
 go_wp2_with fail
 go_ret
 exact ⟨rfl, unhide HB⟩
theorem hallB  (s : Pg.Sl) (l : List Int) (w : World) (hr : Pg.RN w s l)  : Calls Try.prog 17 #[.slice s.ad s.len s.cap, .func (.func 39) #[] #[]] w fun r w' => r = .returned (.bool (!l.any (Pg.noSize))) ∧ Below w.heap.size w w' := by
 have hb0 := (Below.refl w.heap.size w).alloc (Nat.le_refl _) (Obj.cells #[.func (.func 39) #[] #[]] 56)
 have q0 : (w.alloc (Obj.cells #[.func (.func 39) #[] #[]] 56)).cell? ⟨w.heap.size, 0, none⟩ = some (.func (.func 39) #[] #[]) := by go_simp
 have hlt := World.block_lt_of_cell? _ _ q0
 have HC := hide (kcontains_any (Pg.noSize) w.heap.size s l _ (hr.later hb0 (Nat.le_refl _)) (fun z V hV => hallB1 z w.heap.size V ((hV.cell (p := ⟨w.heap.size, 0, none⟩) hlt).trans q0)))
 have HB0 := hide hb0
 generalize l.any (Pg.noSize) = D at *
 clear hr hb0
 go_enter Try.func17, Try.ntmps17
 go_wp2_with fail
 refine (unhide HC).mono ?_
 rintro r w1 ⟨rfl, hb1⟩
 have HB := hide ((unhide HB0).trans (hb1.mono (unhide HB0).size))
 clear hb1
 go_wp2_with fail
 go_ret
 exact ⟨rfl, unhide HB⟩
theorem areSizes_any (s : Pg.Sl) (l : List Int) (w : World) (hr : Pg.RN w s l) : Calls Try.prog 21 #[.slice s.ad s.len s.cap] w fun r w' => r = .returned (.bool (!l.any Pg.noSize)) ∧ Below w.heap.size w w' := by
 have HC := hide (hallB s l w hr)
 generalize (!l.any Pg.noSize) = D at *
 clear hr
 go_enter Try.func21, Try.ntmps21
 go_wp2_with fail
 refine (unhide HC).mono ?_
 rintro r w1 ⟨rfl, hb1⟩
 have HB := hide hb1
 clear hb1
 go_wp2_with fail
 go_ret
 exact ⟨rfl, unhide HB⟩
theorem hallV1 (t : Pg.Sl) (z : List Int) (bx : Nat) (w : World) (hr : Pg.RN w t z) (hb : w.cell? ⟨bx, 0, none⟩ = some (.func (.func 21) #[] #[])) : Calls Try.prog 38 #[.slice t.ad t.len t.cap, .pointer (some ⟨bx, 0, none⟩)] w fun r w' => r = .returned (.bool (z.any Pg.noSize)) ∧ Below w.heap.size w w' := by
 have HW := hide (areSizes_any t z w hr)
 generalize z.any Pg.noSize = D at *
 go_enter Try.func38, Try.ntmps38
 go_wp2_with fail
 refine (unhide HW).mono ?_
 rintro r w1 ⟨rfl, hb1⟩
 have HB := hide hb1
 clear hb1
 go_wp2_with fail
 go_ret
 exact ⟨ret_bool (by simp), unhide HB⟩
theorem hallV  (s : Pg.Sl) (l : List (List Int)) (w : World) (hr : Pg.RV w s l)  : Calls Try.prog 20 #[.slice s.ad s.len s.cap, .func (.func 21) #[] #[]] w fun r w' => r = .returned (.bool (!l.any (fun s => s.any Pg.noSize))) ∧ Below w.heap.size w w' := by
 have hb0 := (Below.refl w.heap.size w).alloc (Nat.le_refl _) (Obj.cells #[.func (.func 21) #[] #[]] 58)
 have q0 : (w.alloc (Obj.cells #[.func (.func 21) #[] #[]] 58)).cell? ⟨w.heap.size, 0, none⟩ = some (.func (.func 21) #[] #[]) := by go_simp
 have hlt := World.block_lt_of_cell? _ _ q0
 have HC := hide (kcontainsV_any (fun s => s.any Pg.noSize) w.heap.size s l _ (hr.later hb0 (Nat.le_refl _)) (fun t z V hV hz => hallV1 t z w.heap.size V hz ((hV.cell (p := ⟨w.heap.size, 0, none⟩) hlt).trans q0)))
 have HB0 := hide hb0
 generalize l.any (fun s => s.any Pg.noSize) = D at *
 clear hr hb0
 go_enter Try.func20, Try.ntmps20
 go_wp2_with fail
 refine (unhide HC).mono ?_
 rintro r w1 ⟨rfl, hb1⟩
 have HB := hide ((unhide HB0).trans (hb1.mono (unhide HB0).size))
 clear hb1
 go_wp2_with fail
 go_ret
 exact ⟨rfl, unhide HB⟩
end Go.Proofs.Ytpfogjplnodacaa
