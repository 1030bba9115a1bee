/-
  smallTrace and indexBegun of the laws. By the verifier.
-/
import Derived.Test.YtahcobkpdcognaaIFindOf
namespace Go.Proofs.Ytahcobkpdcognaa
open Go.RowKit
set_option linter.unusedVariables false

def Ix.small : List Ev := [⟨1, 0, 0, 0, 0, 0⟩, ⟨3, 0, 0, 0, 0, 7⟩, ⟨2, 0, 0, 0, 0, 7⟩, ⟨1, 0, 1, 0, 0, 0⟩, ⟨4, 0, 1, 0, 0, 7⟩, ⟨7, 0, -1, 0, 0, 0⟩]

set_option maxRecDepth 100000 in
set_option maxHeartbeats 1600000 in
theorem ismallTrace_any (w : World) :
    Calls Try.prog 17 #[] w fun e w' => ∃ g c, e = .returned (.slice (some ⟨g, 0, none⟩) 6 c) ∧ Cl.RE w' (some ⟨g, 0, none⟩) Ix.small ∧ Below w.heap.size w w' := by
  go_enter Try.func17, Try.ntmps17
  go_wp2_with fail
  refine bodyPost_ret (v := .slice (some ⟨w.heap.size, 0, none⟩) 6 6) (by simp [results, Try.results17, go_sem]) rfl ⟨w.heap.size, 6, rfl, ⟨fun i x hi => ?_⟩, (Below.refl _ _).alloc (Nat.le_refl _) _⟩
  match i, hi with
  | 0, hi => cases hi; exact ⟨w.heap.size, 0, rfl, by simp, by go_simp, by go_simp, by go_simp, by go_simp, by go_simp, by go_simp⟩
  | 1, hi => cases hi; exact ⟨w.heap.size, 0, rfl, by simp, by go_simp, by go_simp, by go_simp, by go_simp, by go_simp, by go_simp⟩
  | 2, hi => cases hi; exact ⟨w.heap.size, 0, rfl, by simp, by go_simp, by go_simp, by go_simp, by go_simp, by go_simp, by go_simp⟩
  | 3, hi => cases hi; exact ⟨w.heap.size, 0, rfl, by simp, by go_simp, by go_simp, by go_simp, by go_simp, by go_simp, by go_simp⟩
  | 4, hi => cases hi; exact ⟨w.heap.size, 0, rfl, by simp, by go_simp, by go_simp, by go_simp, by go_simp, by go_simp, by go_simp⟩
  | 5, hi => cases hi; exact ⟨w.heap.size, 0, rfl, by simp, by go_simp, by go_simp, by go_simp, by go_simp, by go_simp, by go_simp⟩
  | _ + 6, hi => simp [Ix.small] at hi

theorem Ix.small_wf : ∀ e ∈ Ix.small, e.wf := by
  intro e he
  simp only [Ix.small, List.mem_cons, List.not_mem_nil, or_false] at he
  rcases he with rfl | rfl | rfl | rfl | rfl | rfl <;> exact ⟨rfl, rfl, rfl, rfl, rfl, rfl⟩
theorem Ix.wf_any : Ix.wf (-1) ∧ Ix.wf 1 ∧ Ix.wf 7 := ⟨rfl, rfl, rfl⟩
theorem Ix.small_find : Ix.found 1 (-1) 0 9 Ix.small = [0, 3] := by decide
theorem Ix.small_last : Ix.lastV 9 (Ix.T 1 1 Ix.small Ix.small.length) = 3 := by decide
theorem Ix.small_is : Ix.lastB 9 (Ix.T 1 1 Ix.small Ix.small.length) = true := by decide
theorem Ix.small_cnt : (Ix.T 4 7 Ix.small Ix.small.length).length = 1 := by decide

set_option maxRecDepth 100000 in
set_option maxHeartbeats 1600000 in
theorem indexBegun_any (w : World) :
    Calls Try.prog 10 #[] w fun e w' => e = .returned (.bool true) ∧ Below w.heap.size w w' := by
  have HF := hide (fun (g c : Nat) (W : World) (h : Cl.RE W (some ⟨g, 0, none⟩) Ix.small) => (show Calls Try.prog 5 #[.slice (some ⟨g, 0, none⟩) 6 c, .int .i64 1, .int .i64 (-1), .int .i64 0, .int .i64 9] W fun e w' => ∃ a c, e = .returned (.tuple #[.slice a 2 c, .int .i64 0]) ∧ Ix.RI w' a [0, 3] ∧ Below W.heap.size W w' by
    have := Find_ok Ix.small (some ⟨g, 0, none⟩) c 1 (-1) 0 9 W h Ix.small_wf Ix.wf_any.1 (by decide)
    rw [Ix.small_find] at this
    exact this))
  have HL := hide (fun (g c : Nat) (W : World) (h : Cl.RE W (some ⟨g, 0, none⟩) Ix.small) => (show Calls Try.prog 6 #[.slice (some ⟨g, 0, none⟩) 6 c, .int .i64 1, .int .i64 1, .int .i64 9] W fun e w' => e = .returned (.tuple #[.int .i64 3, .bool true, .int .i64 0]) ∧ Below W.heap.size W w' by
    have := Last_ok Ix.small (some ⟨g, 0, none⟩) c 1 1 9 W h Ix.small_wf Ix.wf_any.2.1 (by decide)
    rw [Ix.small_last, Ix.small_is] at this
    exact this))
  have HC := hide (fun (g c : Nat) (W : World) (h : Cl.RE W (some ⟨g, 0, none⟩) Ix.small) => (show Calls Try.prog 7 #[.slice (some ⟨g, 0, none⟩) 6 c, .int .i64 4, .int .i64 7] W fun e w' => e = .returned (.tuple #[.int .i64 1, .int .i64 0]) ∧ Below W.heap.size W w' by
    have := Count_ok Ix.small (some ⟨g, 0, none⟩) c 4 7 W h Ix.small_wf Ix.wf_any.2.2 (by decide)
    rw [Ix.small_cnt] at this
    exact this))
  go_enter Try.func10, Try.ntmps10
  go_wp2_with fail
  refine (ismallTrace_any _).mono ?_
  rintro e w1 ⟨g1, c1, rfl, hr1, hb1⟩
  have HR1 := hide hr1
  have HB1 := hide hb1
  clear hr1 hb1
  go_wp2_with fail
  refine ((unhide HF) g1 c1 _ (unhide HR1)).mono ?_
  rintro e w2 ⟨a2, c2, rfl, hr2, hb2⟩
  have HR2 := hide hr2
  have HB2 := hide ((unhide HB1).trans (hb2.mono (unhide HB1).size))
  clear hr2 hb2
  go_wp2_with fail
  refine (ismallTrace_any _).mono ?_
  rintro e w3 ⟨g3, c3, rfl, hr3, hb3⟩
  have HR3 := hide hr3
  have HR23 := hide ((unhide HR2).later hb3 (Nat.le_refl _))
  have HB3 := hide ((unhide HB2).trans (hb3.mono (unhide HB2).size))
  clear hr3 hb3
  go_wp2_with fail
  refine ((unhide HL) g3 c3 _ (unhide HR3)).mono ?_
  rintro e w4 ⟨rfl, hb4⟩
  have HR24 := hide ((unhide HR23).later hb4 (Nat.le_refl _))
  have HB4 := hide ((unhide HB3).trans (hb4.mono (unhide HB3).size))
  clear hb4
  go_wp2_with fail
  refine (ismallTrace_any _).mono ?_
  rintro e w5 ⟨g5, c5, rfl, hr5, hb5⟩
  have HR5 := hide hr5
  have HR25 := hide ((unhide HR24).later hb5 (Nat.le_refl _))
  have HB5 := hide ((unhide HB4).trans (hb5.mono (unhide HB4).size))
  clear hr5 hb5
  go_wp2_with fail
  refine ((unhide HC) g5 c5 _ (unhide HR5)).mono ?_
  rintro e w6 ⟨rfl, hb6⟩
  have HR26 := hide ((unhide HR25).later hb6 (Nat.le_refl _))
  have HB6 := hide ((unhide HB5).trans (hb6.mono (unhide HB5).size))
  clear hb6
  go_wp2_with fail
  have hb7 := (Below.refl w6.heap.size w6).alloc (Nat.le_refl _) (Obj.cells #[.int .i64 0, .int .i64 3] 3)
  refine (SameInts_eq [0, 3] a2 (some ⟨w6.heap.size, 0, none⟩) c2 2 _ ((unhide HR26).later hb7 (Nat.le_refl _)) ⟨fun i x hi => ?_⟩ (by decide)).mono ?_
  · match i, hi with
    | 0, hi => cases hi; exact ⟨w6.heap.size, 0, rfl, by simp, by go_simp⟩
    | 1, hi => cases hi; exact ⟨w6.heap.size, 0, rfl, by simp, by go_simp⟩
    | _ + 2, hi => simp at hi
  rintro e w8 ⟨rfl, hb8⟩
  have HB8 := hide ((unhide HB6).trans ((below_two hb8).mono (unhide HB6).size))
  clear hb8 hb7
  go_wp2_with fail
  go_ret
  exact ⟨rfl, unhide HB8⟩
end Go.Proofs.Ytahcobkpdcognaa
