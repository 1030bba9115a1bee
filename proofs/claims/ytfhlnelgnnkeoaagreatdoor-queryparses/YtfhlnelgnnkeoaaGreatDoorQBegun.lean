/-
  queryBegun of the laws. By the verifier.
-/
import Derived.Test.YtfhlnelgnnkeoaaGreatDoorQP6
import Derived.Test.YtfhlnelgnnkeoaaGreatDoorQSame
import Derived.Test.YtfhlnelgnnkeoaaGreatDoorQHolds
import Derived.Test.YtfhlnelgnnkeoaaGreatDoorISmall
import Derived.Deep.RegionHeld3
namespace Go.Proofs.YtfhlnelgnnkeoaaGreatDoor
open Go.RowKit
set_option linter.unusedVariables false

set_option maxHeartbeats 800000 in
theorem once_lies (w : World) :
    Calls Tryz.prog 27 #[] w fun r w' => (∃ g, r = .returned (.agg #[.int .i64 11, .int .i64 0, .slice (some ⟨g, 0, none⟩) 1 1]) ∧ Qk.Lies w' g 0 ⟨4, 0, ⟨none, 0, 0⟩⟩ ∧ g < w'.heap.size) ∧ Below w.heap.size w w' := by
  go_enter Tryz.func27, Tryz.ntmps27
  go_wp2_with fail
  refine bodyPost_ret (v := .agg #[.int .i64 11, .int .i64 0, .slice (some ⟨w.heap.size + 1, 0, none⟩) 1 1]) (by simp [results, Tryz.results27, go_sem]) rfl ?_
  exact ⟨⟨w.heap.size + 1, rfl, ⟨by go_simp, by go_simp, by go_simp⟩, by simp⟩, ((Below.refl _ _).alloc (Nat.le_refl _) _).alloc (by simp) _⟩
theorem Qk.small_hok : Qk.hErr 2 Qk.onceT 6 = 0 := by decide +kernel
theorem Qk.small_marks : Qk.marks 2 Qk.onceT Ix.small = [false, false, false, false, true, true] := by decide +kernel
theorem Qp.row6 (W : World) (ty : TypeId) : Dk.RB (W.alloc (Obj.cells #[.bool false, .bool false, .bool false, .bool false, .bool true, .bool true] ty)) (some ⟨W.heap.size, 0, none⟩) [false, false, false, false, true, true] := by
  refine ⟨fun i s hi => ⟨W.heap.size, 0, rfl, by simp, ?_⟩⟩
  match i, hi with
  | 0, hi => cases hi; go_simp
  | 1, hi => cases hi; go_simp
  | 2, hi => cases hi; go_simp
  | 3, hi => cases hi; go_simp
  | 4, hi => cases hi; go_simp
  | 5, hi => cases hi; go_simp
  | _ + 6, hi => simp at hi
/-- What lies in a box of three cells, and that nothing else turned. -/
abbrev Qp.S3 (wS : World) (b : Nat) (D0 D1 D2 : Value) (W : World) : Prop := W.cell? ⟨b, 0, none⟩ = some D0 ∧ W.cell? ⟨b, 1, none⟩ = some D1 ∧ W.cell? ⟨b, 2, none⟩ = some D2 ∧ Below wS.heap.size wS W
theorem Qp.S3.below {wS W W' : World} {b : Nat} {D0 D1 D2 : Value} (h : Qp.S3 wS b D0 D1 D2 W) (hb : Below W.heap.size W W') : Qp.S3 wS b D0 D1 D2 W' := by
  have hlt : b < W.heap.size := World.block_lt_of_cell? W _ h.1
  exact ⟨(hb.cell (p := ⟨b, 0, none⟩) hlt).trans h.1, (hb.cell (p := ⟨b, 1, none⟩) hlt).trans h.2.1, (hb.cell (p := ⟨b, 2, none⟩) hlt).trans h.2.2.1, h.2.2.2.trans (hb.mono h.2.2.2.size)⟩
theorem Qp.S3.bel {wS W : World} {b : Nat} {D0 D1 D2 : Value} (h : Qp.S3 wS b D0 D1 D2 W) : Below wS.heap.size wS W := h.2.2.2
theorem Qp.S3.drew {wS W : World} {b : Nat} {D0 D1 D2 : Value} (h : Qp.S3 wS b D0 D1 D2 W) : Qp.S3 wS b D0 D1 D2 W.drew := h.below (Below.refl _ _).drew

set_option maxRecDepth 100000 in
set_option maxHeartbeats 1600000 in
theorem queryBegun_any (w : World) :
    Calls Tryz.prog 11 #[] w fun e w' => e = .returned (.bool true) ∧ Below w.heap.size w w' := by
  have HH := hide (fun (g : Nat) (a c : Nat) (W : World) (h : Qk.Lies W g 0 ⟨4, 0, ⟨none, 0, 0⟩⟩) (hg : g < W.heap.size) (h1 : Cl.RE W (some ⟨a, 0, none⟩) Ix.small) => show Calls Tryz.prog 16 #[.agg #[.int .i64 11, .int .i64 0, .slice (some ⟨g, 0, none⟩) 1 1], .slice (some ⟨a, 0, none⟩) 6 c] W fun r w' => (∃ b, r = .returned (.tuple #[.slice (some ⟨b, 0, none⟩) 6 6, .int .i64 0]) ∧ Dk.RB w' (some ⟨b, 0, none⟩) [false, false, false, false, true, true]) ∧ Below W.heap.size W w' by
    refine (Holds_ok 2 ⟨11, 0, ⟨some ⟨g, 0, none⟩, 1, 1⟩⟩ Qk.onceT Ix.small (some ⟨a, 0, none⟩) c W (Qk.RA.once_of h hg) h1 Ix.small_wf Qk.small_hok).mono ?_
    rintro r w' ⟨b, rfl, _, hrow, _, hb⟩
    rw [Qk.small_marks] at hrow
    exact ⟨⟨b, rfl, hrow.reads⟩, hb⟩)
  have HC := hide (fun (g : Nat) (W : World) (h : Qk.Lies W g 0 ⟨4, 0, ⟨none, 0, 0⟩⟩) (hg : g < W.heap.size) => show Calls Tryz.prog 12 #[.agg #[.int .i64 11, .int .i64 0, .slice (some ⟨g, 0, none⟩) 1 1]] W fun r w' => r = .returned (.int .i64 0) ∧ Below W.heap.size W w' by
    have := qCheck_any 2 ⟨11, 0, ⟨some ⟨g, 0, none⟩, 1, 1⟩⟩ Qk.onceT W (Qk.RA.once_of h hg)
    rw [Qk.once_chk] at this
    exact this)
  have HA := hide (fun (g g' : Nat) (W : World) (h : Qk.Lies W g 0 ⟨4, 0, ⟨none, 0, 0⟩⟩) (hg : g < W.heap.size) (h' : Qk.Lies W g' 0 ⟨4, 0, ⟨none, 0, 0⟩⟩) (hg' : g' < W.heap.size) => show Calls Tryz.prog 15 #[.agg #[.int .i64 11, .int .i64 0, .slice (some ⟨g, 0, none⟩) 1 1], .agg #[.int .i64 11, .int .i64 0, .slice (some ⟨g', 0, none⟩) 1 1]] W fun r w' => r = .returned (.bool true) ∧ Below W.heap.size W w' from
    SameAsk_eq 2 ⟨11, 0, ⟨some ⟨g, 0, none⟩, 1, 1⟩⟩ ⟨11, 0, ⟨some ⟨g', 0, none⟩, 1, 1⟩⟩ Qk.onceT W (Qk.RA.once_of h hg) (Qk.RA.once_of h' hg'))
  go_enter Tryz.func11, Tryz.ntmps11
  go_wp2_with fail
  refine (once_lies _).mono ?_
  rintro r w1 ⟨⟨g1, rfl, hL1, hg1⟩, hb1⟩
  have HL1 := hide hL1
  have HB1 := hide hb1
  clear hL1 hb1
  go_wp2_with fail
  refine (Print_once g1 _ (unhide HL1) hg1).mono ?_
  rintro r w2 ⟨rfl, hb2⟩
  have HB2 := hide ((unhide HB1).trans (hb2.mono (unhide HB1).size))
  clear hb2
  go_wp2_with fail
  refine (Parse_once _).mono ?_
  rintro r w3 ⟨⟨g3, rfl, hL3, hg3⟩, hb3⟩
  have HB3 := hide ((unhide HB2).trans (hb3.mono (unhide HB2).size))
  have HL3 := hide (And.intro hL3 hg3)
  clear hb3 hL3 hg3 HL1 hg1
  go_wp2_with fail
  have hbX := (Below.refl w3.heap.size w3).alloc (Nat.le_refl _) (Obj.cells #[.int .i64 11, .int .i64 0, .slice (some ⟨g3, 0, none⟩) 1 1] 24)
  have HX := hide (show Qp.S3 w3 w3.heap.size (.int .i64 11) (.int .i64 0) (.slice (some ⟨g3, 0, none⟩) 1 1) (w3.alloc (Obj.cells #[.int .i64 11, .int .i64 0, .slice (some ⟨g3, 0, none⟩) 1 1] 24)) from ⟨by go_simp, by go_simp, by go_simp, hbX⟩)
  clear hbX
  generalize (w3.alloc (Obj.cells #[.int .i64 11, .int .i64 0, .slice (some ⟨g3, 0, none⟩) 1 1] 24)) = WX at *
  refine (once_lies _).mono ?_
  rintro r w4 ⟨⟨g4, rfl, hL4, hg4⟩, hb4⟩
  have HL4 := hide (And.intro hL4 hg4)
  have HX4 := hide ((unhide HX).below hb4)
  clear hL4 hg4 hb4
  go_wp2_with fail
  refine (ismallTrace_any _).mono ?_
  rintro r w5 ⟨g5, c5, rfl, hr5, hb5⟩
  have HL5 := hide (And.intro ((unhide HL4).1.later hb5 (Nat.le_refl _) (unhide HL4).2) (show g4 < w5.heap.size by have := (unhide HL4).2; have := hb5.size; omega))
  have HR5 := hide hr5
  have HX5 := hide ((unhide HX4).below hb5)
  clear hr5 hb5 HL4 HX4
  go_wp2_with fail
  refine ((unhide HH) g4 g5 c5 _ (unhide HL5).1 (unhide HL5).2 (unhide HR5)).mono ?_
  rintro r w6 ⟨⟨g6, rfl, hr6⟩, hb6⟩
  have HR6 := hide hr6
  have HX6 := hide ((unhide HX5).below hb6)
  have HB6 := hide (show Below w.heap.size w w6 from (unhide HB3).trans ((unhide HX6).2.2.2.mono (unhide HB3).size))
  have HL6 := hide (And.intro ((unhide HL3).1.later (unhide HX6).2.2.2 (Nat.le_refl _) (unhide HL3).2) (show g3 < w6.heap.size by have := (unhide HL3).2; have := (unhide HX6).2.2.2.size; omega))
  have HS := hide (show Qp.S3 w6 w3.heap.size (.int .i64 11) (.int .i64 0) (.slice (some ⟨g3, 0, none⟩) 1 1) w6 from ⟨(unhide HX6).1, (unhide HX6).2.1, (unhide HX6).2.2.1, Below.refl _ _⟩)
  clear hr6 hb6 HL5 HR5 HX5 HX6 HX HB3 HB2 HB1
  go_wp2_with fail
  go_region_held3 (fun W => W.cell? ⟨w3.heap.size, 0, none⟩ = some (.int .i64 11) ∧ W.cell? ⟨w3.heap.size, 1, none⟩ = some (.int .i64 0) ∧ W.cell? ⟨w3.heap.size, 2, none⟩ = some (.slice (some ⟨g3, 0, none⟩) 1 1) ∧ Below w6.heap.size w6 W)
    (first
      | exact Qp.S3.below (by assumption) (unhide HBS)
      | exact Qp.S3.below (by assumption) ((Below.refl _ _).alloc (Nat.le_refl _) _)
      | exact Qp.S3.drew (unhide HS))
    (first
      | (go_at_call 27; refine (once_lies _).mono ?_; rintro r w7 ⟨⟨g7, rfl, hL7, hg7⟩, hb7⟩; have HL7 := hide (And.intro hL7 hg7); have HBS := hide hb7; clear hL7 hg7 hb7)
      | (go_at_call 12; refine ((unhide HC) _ _ (unhide HL7).1 (unhide HL7).2).mono ?_; rintro r w8 ⟨rfl, hb8⟩; have HBS := hide hb8; clear hb8)
      | (go_at_call 15; refine ((unhide HA) _ _ _ ((unhide HL6).1.later (Qp.S3.bel (by assumption)) (Nat.le_refl _) (unhide HL6).2) (Nat.lt_of_lt_of_le (unhide HL6).2 (Qp.S3.bel (by assumption)).size) (unhide HL7).1 (unhide HL7).2).mono ?_; rintro r w9 ⟨rfl, hb9⟩; have HBS := hide hb9; clear hb9)
      | (go_at_call 18; refine (SameBools_eq [false, false, false, false, true, true] (some ⟨g6, 0, none⟩) _ 6 6 _ ((unhide HR6).later (Qp.S3.bel (by assumption)) (Nat.le_refl _)) (Qp.row6 _ _) (by decide)).mono ?_; rintro r w10 ⟨rfl, hb10⟩; have HBS := hide hb10; clear hb10))
  all_goals
    go_wp2_with fail
    go_ret
    exact ⟨rfl, (unhide HB6).trans ((Qp.S3.bel (by assumption)).mono (unhide HB6).size)⟩
end Go.Proofs.YtfhlnelgnnkeoaaGreatDoor
