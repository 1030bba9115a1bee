/-
  whenBegun of the laws. By the verifier.
-/
import Derived.Test.YtkonaaldbeecoaaWRead
namespace Go.Proofs.Ytkonaaldbeecoaa
open Go.RowKit
set_option linter.unusedVariables false

set_option maxRecDepth 100000 in
set_option maxHeartbeats 1600000 in
theorem whenBegun_any (w : World) :
    Calls Try.prog 11 #[] w fun e w' => e = .returned (.bool true) ∧ Below w.heap.size w w' := by
  have HT := hide (fun (q : Qk.E) (g c : Nat) (W : World) (h : Qk.RA W 2 q Qk.onceT) (h1 : Cl.RE W (some ⟨g, 0, none⟩) Ix.small) => (show Calls Try.prog 5 #[q.val, .slice (some ⟨g, 0, none⟩) 6 c, .int .i64 0, .int .i64 9] W fun e w' => ∃ a c, e = .returned (.tuple #[.slice a 2 c, .int .i64 0]) ∧ Ix.RI w' a [4, 5] ∧ Below W.heap.size W w' by
    have := Times_is 2 q Qk.onceT Ix.small (some ⟨g, 0, none⟩) c 0 9 W h h1 Ix.small_wf Wn.small_ok
    rw [Wn.small_times] at this
    exact this))
  have HF := hide (fun (q : Qk.E) (g c : Nat) (W : World) (h : Qk.RA W 2 q Qk.onceT) (h1 : Cl.RE W (some ⟨g, 0, none⟩) Ix.small) => (show Calls Try.prog 6 #[q.val, .slice (some ⟨g, 0, none⟩) 6 c] W fun e w' => e = .returned (.tuple #[.int .i64 4, .bool true, .int .i64 0]) ∧ Below W.heap.size W w' by
    have := First_ok 2 q Qk.onceT Ix.small (some ⟨g, 0, none⟩) c W h h1 Ix.small_wf Wn.small_ok
    rw [Wn.small_spans] at this
    exact this))
  have HS := hide (fun (q : Qk.E) (g c : Nat) (W : World) (h : Qk.RA W 2 q Qk.onceT) (h1 : Cl.RE W (some ⟨g, 0, none⟩) Ix.small) => (show Calls Try.prog 7 #[q.val, .slice (some ⟨g, 0, none⟩) 6 c] W fun e w' => ∃ a c, e = .returned (.tuple #[.slice a 1 c, .int .i64 0]) ∧ Wn.RP w' a [(4, 6)] ∧ Below W.heap.size W w' by
    have := Spans_is 2 q Qk.onceT Ix.small (some ⟨g, 0, none⟩) c W h h1 Ix.small_wf Wn.small_ok
    rw [Wn.small_spans] at this
    exact this))
  unfold Qk.E.val at HT HF HS
  have HO := hide once_any
  unfold Qk.E.val at HO
  go_enter Try.func11, Try.ntmps11
  go_wp2_with fail
  refine ((unhide HO) _).mono ?_
  rintro e w1 ⟨q1, rfl, hq1, hb1⟩
  have HQ1 := hide hq1
  have HB1 := hide hb1
  clear hq1 hb1
  go_wp2_with fail
  refine (ismallTrace_any _).mono ?_
  rintro e w2 ⟨g2, c2, rfl, hr2, hb2⟩
  have HQ2 := hide ((unhide HQ1).later hb2 (Nat.le_refl _))
  have HR2 := hide hr2
  have HB2 := hide ((unhide HB1).trans (hb2.mono (unhide HB1).size))
  clear hr2 hb2
  go_wp2_with fail
  refine ((unhide HT) q1 g2 c2 _ (unhide HQ2) (unhide HR2)).mono ?_
  rintro e w3 ⟨a3, c3, rfl, hr3, hb3⟩
  have HR3 := hide hr3
  have HB3 := hide ((unhide HB2).trans (hb3.mono (unhide HB2).size))
  clear hr3 hb3
  go_wp2_with fail
  refine ((unhide HO) _).mono ?_
  rintro e w4 ⟨q4, rfl, hq4, hb4⟩
  have HQ4 := hide hq4
  have HR4 := hide ((unhide HR3).later hb4 (Nat.le_refl _))
  have HB4 := hide ((unhide HB3).trans (hb4.mono (unhide HB3).size))
  clear hq4 hb4
  go_wp2_with fail
  refine (ismallTrace_any _).mono ?_
  rintro e w5 ⟨g5, c5, rfl, hr5, hb5⟩
  have HQ5 := hide ((unhide HQ4).later hb5 (Nat.le_refl _))
  have HS5 := hide hr5
  have HR5 := hide ((unhide HR4).later hb5 (Nat.le_refl _))
  have HB5 := hide ((unhide HB4).trans (hb5.mono (unhide HB4).size))
  clear hr5 hb5
  go_wp2_with fail
  refine ((unhide HF) q4 g5 c5 _ (unhide HQ5) (unhide HS5)).mono ?_
  rintro e w6 ⟨rfl, hb6⟩
  have HR6 := hide ((unhide HR5).later hb6 (Nat.le_refl _))
  have HB6 := hide ((unhide HB5).trans (hb6.mono (unhide HB5).size))
  clear hb6
  go_wp2_with fail
  refine ((unhide HO) _).mono ?_
  rintro e w7 ⟨q7, rfl, hq7, hb7⟩
  have HQ7 := hide hq7
  have HR7 := hide ((unhide HR6).later hb7 (Nat.le_refl _))
  have HB7 := hide ((unhide HB6).trans (hb7.mono (unhide HB6).size))
  clear hq7 hb7
  go_wp2_with fail
  refine (ismallTrace_any _).mono ?_
  rintro e w8 ⟨g8, c8, rfl, hr8, hb8⟩
  have HQ8 := hide ((unhide HQ7).later hb8 (Nat.le_refl _))
  have HS8 := hide hr8
  have HR8 := hide ((unhide HR7).later hb8 (Nat.le_refl _))
  have HB8 := hide ((unhide HB7).trans (hb8.mono (unhide HB7).size))
  clear hr8 hb8
  go_wp2_with fail
  refine ((unhide HS) q7 g8 c8 _ (unhide HQ8) (unhide HS8)).mono ?_
  rintro e w9 ⟨a9, c9, rfl, hr9, hb9⟩
  obtain ⟨g9, rfl, hlt9, x0, x1⟩ := hr9.at_ 0 _ rfl
  have HR9 := hide ((unhide HR8).later hb9 (Nat.le_refl _))
  have HB9 := hide ((unhide HB8).trans (hb9.mono (unhide HB8).size))
  have HX := hide (And.intro x0 x1)
  clear hr9 hb9 x0 x1
  go_wp2_with fail
  have hb10 := (Below.refl w9.heap.size w9).alloc (Nat.le_refl _) (Obj.cells #[.int .i64 4, .int .i64 5] 3)
  refine (SameInts_eq [4, 5] a3 (some ⟨w9.heap.size, 0, none⟩) c3 2 _ ((unhide HR9).later hb10 (Nat.le_refl _)) ⟨fun i x hi => ?_⟩ (by decide)).mono ?_
  · match i, hi with
    | 0, hi => cases hi; exact ⟨w9.heap.size, 0, rfl, by simp, by go_simp⟩
    | 1, hi => cases hi; exact ⟨w9.heap.size, 0, rfl, by simp, by go_simp⟩
    | _ + 2, hi => simp at hi
  rintro e w11 ⟨rfl, hb11⟩
  have hb12 := below_two hb11
  have y0 := (hb12.cell (p := ⟨g9, 0, none⟩) hlt9).trans (unhide HX).1
  have y1 := (hb12.cell (p := ⟨g9, 1, none⟩) hlt9).trans (unhide HX).2
  have HB11 := hide ((unhide HB9).trans (hb12.mono (unhide HB9).size))
  clear hb11 hb10 hb12
  have heq := Wn.eq2 4 6 4 6
  go_wp2_with fail
  go_ret
  exact ⟨rfl, unhide HB11⟩
end Go.Proofs.Ytkonaaldbeecoaa
