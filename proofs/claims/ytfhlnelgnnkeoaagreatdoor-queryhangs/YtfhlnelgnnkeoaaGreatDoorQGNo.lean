/-
  The walk of QueryHangs, where one of the three queries is none. By the verifier.
-/
import Derived.Test.YtfhlnelgnnkeoaaGreatDoorQHangF
import Derived.Test.YtfhlnelgnnkeoaaGreatDoorQBegun
namespace Go.Proofs.YtfhlnelgnnkeoaaGreatDoor
open Go.RowKit
set_option linter.unusedVariables false

/-- holds answers some slice, and whether all was well. -/
theorem holds_some (n : Nat) (k : Int) (qa : Option Addr) (qn qc : Nat) (x : Qk.AT n) (l : List Ev) (ad : Option Addr) (cap : Nat) (w : World) (h : Qk.RA w n ⟨k, 0, ⟨qa, qn, qc⟩⟩ x) (hr : Cl.RE w ad l) (hw : ∀ e ∈ l, e.wf) (hf : l.length ≤ 35184372088832) (b : Bool) (hb : b = decide (Qk.hErr n x l.length = 0)) :
    Calls Tryz.prog 19 #[.int .i64 k, .int .i64 0, .slice ad l.length cap, .slice qa qn qc] w fun r w' => (∃ (a : Option Addr) (m c : Nat), r = .returned (.tuple #[.slice a m c, .bool b])) ∧ Below w.heap.size w w' := by
  by_cases h0 : Qk.hErr n x l.length = 0
  · rw [hb, decide_eq_true h0]
    exact (holds_yes n k qa qn qc x l ad cap w h hr hw h0).mono fun r w' ⟨g, k1, _, _, k4⟩ => ⟨⟨_, _, _, k1⟩, k4⟩
  · rw [hb, decide_eq_false h0]
    exact (holds_no n k qa qn qc x l.length ad cap w h hf h0).mono fun r w' ⟨k1, k2⟩ => ⟨⟨_, _, _, k1⟩, k2⟩

set_option maxRecDepth 100000 in
set_option maxHeartbeats 1600000 in
theorem qhangs_no (n : Nat) (e d : Qk.E) (x y : Qk.AT n) (l : List Ev) (ad : Option Addr) (cap : Nat) (cut : Int) (w : World) (h : Qk.RA w n e x) (hd : Qk.RA w n d y) (hr : Cl.RE w ad l) (hw : ∀ e ∈ l, e.wf) (hf : l.length ≤ 35184372088832)
    (h0 : (decide (Qk.hErr (n + 1) (Qk.two 13 x y) l.length = 0) && decide (Qk.hErr (n + 1) (Qk.two 9 x x) l.length = 0) && decide (Qk.hErr (n + 1) (Qk.two 9 y y) l.length = 0)) = false) :
    Calls Tryz.prog 7 #[e.val, d.val, .slice ad l.length cap, .int .i64 cut] w fun r w' => r = .returned (.bool true) ∧ Below w.heap.size w w' := by
  obtain ⟨b1, hb1⟩ : ∃ b, b = decide (Qk.hErr (n + 1) (Qk.two 13 x y) l.length = 0) := ⟨_, rfl⟩
  obtain ⟨b2, hb2⟩ : ∃ b, b = decide (Qk.hErr (n + 1) (Qk.two 9 x x) l.length = 0) := ⟨_, rfl⟩
  obtain ⟨b3, hb3⟩ : ∃ b, b = decide (Qk.hErr (n + 1) (Qk.two 9 y y) l.length = 0) := ⟨_, rfl⟩
  rw [← hb1, ← hb2, ← hb3] at h0
  have H1 := hide (fun (W : World) (ha : Qk.RA W n e x) (hb : Qk.RA W n d y) (hre : Cl.RE W ad l) => show Calls Tryz.prog 19 #[.int .i64 13, .int .i64 0, .slice ad l.length cap, .slice (some ⟨W.heap.size, 0, none⟩) 2 2] (W.alloc (Obj.cells #[.int .i64 e.k, .int .i64 e.n, .slice e.args.ad e.args.len e.args.cap, .int .i64 d.k, .int .i64 d.n, .slice d.args.ad d.args.len d.args.cap] 24)) fun r w' => (∃ (a : Option Addr) (m c : Nat), r = .returned (.tuple #[.slice a m c, .bool b1])) ∧ Below W.heap.size W w' from
    (holds_some (n + 1) 13 _ 2 2 _ l ad cap _ (Qk.made2 13 ha hb) (hre.later ((Below.refl W.heap.size W).alloc (Nat.le_refl _) _) (Nat.le_refl _)) hw hf b1 hb1).mono fun r w' ⟨k1, k2⟩ => ⟨k1, below_two k2⟩)
  have H2 := hide (fun (W : World) (ha : Qk.RA W n e x) (hre : Cl.RE W ad l) => show Calls Tryz.prog 19 #[.int .i64 9, .int .i64 0, .slice ad l.length cap, .slice (some ⟨W.heap.size, 0, none⟩) 2 2] (W.alloc (Obj.cells #[.int .i64 e.k, .int .i64 e.n, .slice e.args.ad e.args.len e.args.cap, .int .i64 e.k, .int .i64 e.n, .slice e.args.ad e.args.len e.args.cap] 24)) fun r w' => (∃ (a : Option Addr) (m c : Nat), r = .returned (.tuple #[.slice a m c, .bool b2])) ∧ Below W.heap.size W w' from
    (holds_some (n + 1) 9 _ 2 2 _ l ad cap _ (Qk.made2 9 ha ha) (hre.later ((Below.refl W.heap.size W).alloc (Nat.le_refl _) _) (Nat.le_refl _)) hw hf b2 hb2).mono fun r w' ⟨k1, k2⟩ => ⟨k1, below_two k2⟩)
  have H3 := hide (fun (W : World) (ha : Qk.RA W n d y) (hre : Cl.RE W ad l) => show Calls Tryz.prog 19 #[.int .i64 9, .int .i64 0, .slice ad l.length cap, .slice (some ⟨W.heap.size, 0, none⟩) 2 2] (W.alloc (Obj.cells #[.int .i64 d.k, .int .i64 d.n, .slice d.args.ad d.args.len d.args.cap, .int .i64 d.k, .int .i64 d.n, .slice d.args.ad d.args.len d.args.cap] 24)) fun r w' => (∃ (a : Option Addr) (m c : Nat), r = .returned (.tuple #[.slice a m c, .bool b3])) ∧ Below W.heap.size W w' from
    (holds_some (n + 1) 9 _ 2 2 _ l ad cap _ (Qk.made2 9 ha ha) (hre.later ((Below.refl W.heap.size W).alloc (Nat.le_refl _) _) (Nat.le_refl _)) hw hf b3 hb3).mono fun r w' ⟨k1, k2⟩ => ⟨k1, below_two k2⟩)
  have HA := hide (And.intro h (And.intro hd hr))
  have H0 := hide h0
  clear h hd hr hw hb1 hb2 hb3 h0
  unfold Qk.E.val
  go_enter Tryz.func7, Tryz.ntmps7
  go_wp2_with fail
  obtain ⟨W1, hW1⟩ : ∃ W1, W1 = (w.alloc (.cells #[.int .i64 e.k, .int .i64 e.n, .slice e.args.ad e.args.len e.args.cap] 24)).alloc (.cells #[.int .i64 d.k, .int .i64 d.n, .slice d.args.ad d.args.len d.args.cap] 24) := ⟨_, rfl⟩
  have hs1 : w.heap.size + 1 < W1.heap.size := by rw [hW1]; simp
  have HB1 := hide (show Below w.heap.size w W1 by rw [hW1]; exact ((Below.refl _ _).alloc (Nat.le_refl _) _).alloc (by simp) _)
  have HQ := hide (show (W1.cell? ⟨w.heap.size, 0, none⟩ = some (.int .i64 e.k) ∧ W1.cell? ⟨w.heap.size, 1, none⟩ = some (.int .i64 e.n) ∧ W1.cell? ⟨w.heap.size, 2, none⟩ = some (.slice e.args.ad e.args.len e.args.cap)) ∧ (W1.cell? ⟨w.heap.size + 1, 0, none⟩ = some (.int .i64 d.k) ∧ W1.cell? ⟨w.heap.size + 1, 1, none⟩ = some (.int .i64 d.n) ∧ W1.cell? ⟨w.heap.size + 1, 2, none⟩ = some (.slice d.args.ad d.args.len d.args.cap)) by
    rw [hW1]; exact ⟨⟨by go_simp, by go_simp, by go_simp⟩, ⟨by go_simp, by go_simp, by go_simp⟩⟩)
  rw [← hW1]
  clear hW1
  have HQL := hide (fun (W' : World) (hb : Below W1.heap.size W1 W') => show (W'.cell? ⟨w.heap.size, 0, none⟩ = some (.int .i64 e.k) ∧ W'.cell? ⟨w.heap.size, 1, none⟩ = some (.int .i64 e.n) ∧ W'.cell? ⟨w.heap.size, 2, none⟩ = some (.slice e.args.ad e.args.len e.args.cap)) ∧ (W'.cell? ⟨w.heap.size + 1, 0, none⟩ = some (.int .i64 d.k) ∧ W'.cell? ⟨w.heap.size + 1, 1, none⟩ = some (.int .i64 d.n) ∧ W'.cell? ⟨w.heap.size + 1, 2, none⟩ = some (.slice d.args.ad d.args.len d.args.cap)) from by
    have c0 : ∀ j, W'.cell? ⟨w.heap.size, j, none⟩ = W1.cell? ⟨w.heap.size, j, none⟩ := fun j => hb.cell (p := ⟨w.heap.size, j, none⟩) (by show w.heap.size < W1.heap.size; omega)
    have c1 : ∀ j, W'.cell? ⟨w.heap.size + 1, j, none⟩ = W1.cell? ⟨w.heap.size + 1, j, none⟩ := fun j => hb.cell (p := ⟨w.heap.size + 1, j, none⟩) hs1
    rw [c0, c0, c0, c1, c1, c1]
    exact unhide HQ)
  have HA1 := hide (fun (W' : World) (hb : Below W1.heap.size W1 W') => show Qk.RA W' n e x ∧ Qk.RA W' n d y ∧ Cl.RE W' ad l from
    have hb' := (unhide HB1).trans (hb.mono (unhide HB1).size)
    ⟨Qk.RA.later hb' (Nat.le_refl _) n (unhide HA).1, Qk.RA.later hb' (Nat.le_refl _) n (unhide HA).2.1, (unhide HA).2.2.later hb' (Nat.le_refl _)⟩)
  refine (queryBegun_any _).mono ?_
  rintro r w2 ⟨rfl, hb2⟩
  have HX2 := hide hb2
  obtain ⟨⟨p0, p1, p2⟩, ⟨s0, s1, s2⟩⟩ := (unhide HQL) _ hb2
  clear hb2
  go_wp2_with fail
  refine ((unhide H1) _ ((unhide HA1) _ (unhide HX2)).1 ((unhide HA1) _ (unhide HX2)).2.1 ((unhide HA1) _ (unhide HX2)).2.2).mono ?_
  rintro r w3 ⟨⟨a3, m3, c3, rfl⟩, hb3⟩
  have HX3 := hide ((unhide HX2).trans (hb3.mono (unhide HX2).size))
  clear hb3 p0 p1 p2 s0 s1 s2
  obtain ⟨⟨p0, p1, p2⟩, ⟨s0, s1, s2⟩⟩ := (unhide HQL) _ (unhide HX3)
  go_wp2_with fail
  refine ((unhide H2) _ ((unhide HA1) _ (unhide HX3)).1 ((unhide HA1) _ (unhide HX3)).2.2).mono ?_
  rintro r w4 ⟨⟨a4, m4, c4, rfl⟩, hb4⟩
  have HX4 := hide ((unhide HX3).trans (hb4.mono (unhide HX3).size))
  clear hb4 p0 p1 p2 s0 s1 s2
  obtain ⟨⟨p0, p1, p2⟩, ⟨s0, s1, s2⟩⟩ := (unhide HQL) _ (unhide HX4)
  go_wp2_with fail
  refine ((unhide H3) _ ((unhide HA1) _ (unhide HX4)).2.1 ((unhide HA1) _ (unhide HX4)).2.2).mono ?_
  rintro r w5 ⟨⟨a5, m5, c5, rfl⟩, hb5⟩
  have HX5 := hide ((unhide HB1).trans (((unhide HX4).trans (hb5.mono (unhide HX4).size)).mono (unhide HB1).size))
  clear hb5 p0 p1 p2 s0 s1 s2
  cases b1
  · go_wp2_with fail
    go_ret
    exact ⟨rfl, unhide HX5⟩
  · cases b2
    · go_wp2_with fail
      go_ret
      exact ⟨rfl, unhide HX5⟩
    · cases b3
      · go_wp2_with fail
        go_ret
        exact ⟨rfl, unhide HX5⟩
      · exact absurd (unhide H0) (by decide)
end Go.Proofs.YtfhlnelgnnkeoaaGreatDoor
