/-
  The walk of QueryHolds. By the verifier.
-/
import Derived.Test.YtgibipidokkjbaaGreatDoorQBegun
import Derived.Test.YtgibipidokkjbaaGreatDoorQOfIs
import Derived.Test.YtgibipidokkjbaaGreatDoorQRef
namespace Go.Proofs.YtgibipidokkjbaaGreatDoor
open Go.RowKit
set_option linter.unusedVariables false

set_option maxRecDepth 100000 in
set_option maxHeartbeats 1600000 in
theorem qholds_ok (n : Nat) (e : Qk.E) (x : Qk.AT n) (l : List Ev) (ad : Option Addr) (cap : Nat) (w : World) (h : Qk.RA w n e x) (hr : Cl.RE w ad l) (hw : ∀ e ∈ l, e.wf) (h0 : Qk.hErr n x l.length = 0) :
    Calls Tryz.prog 6 #[e.val, .slice ad l.length cap] w fun r w' => r = .returned (.bool true) ∧ Below w.heap.size w w' := by
  have hl := (Qk.hErr_ok h0).2
  have hc0 := (Qk.hErr_ok h0).1
  have HT := hide (fun (W : World) (h : Qk.RA W n e x) (h1 : Cl.RE W ad l) => show Calls Tryz.prog 16 #[e.val, .slice ad l.length cap] W fun r w' => ∃ g, r = .returned (.tuple #[.slice (some ⟨g, 0, none⟩) l.length l.length, .int .i64 0]) ∧ Dk.RB w' (some ⟨g, 0, none⟩) (Qk.marks n x l) ∧ Below W.heap.size W w' from (Holds_ok n e x l ad cap W h h1 hw h0).mono fun r w' ⟨g, k1, _, k3, _, k5⟩ => ⟨g, k1, k3.reads, k5⟩)
  have HC := hide (fun (W : World) (h : Qk.RA W n e x) => show Calls Tryz.prog 9 #[e.val] W fun r w' => r = .returned (.int .i64 0) ∧ Below W.heap.size W w' by
    have := CheckAsk_any n e x W h
    rw [hc0] at this
    exact this)
  have HO := hide (fun (W : World) (h : Qk.RA W n e x) (h1 : Cl.RE W ad l) => HoldsOf_is n e x l ad cap W h (Qk.chk_ok hc0).2 h1 hl)
  have HSB := hide (fun (s : List Bool) (hs : s.length = l.length) (a b : Option Addr) (c d : Nat) (W : World) (h1 : Dk.RB W a s) (h2 : Dk.RB W b s) => show Calls Tryz.prog 18 #[.slice a l.length c, .slice b l.length d] W fun r w' => r = .returned (.bool true) ∧ Below W.heap.size W w' by
    have := SameBools_eq s a b c d W h1 h2 (by omega)
    rw [hs] at this
    exact this)
  have HA := hide h
  have HR := hide hr
  clear h hr hw h0 hc0
  generalize Qk.marks n x l = b at *
  unfold Qk.E.val at HT HC HO ⊢
  go_enter Tryz.func6, Tryz.ntmps6
  go_wp2_with fail
  obtain ⟨W1, hW1⟩ : ∃ W1, W1 = w.alloc (.cells #[.int .i64 e.k, .int .i64 e.n, .slice e.args.ad e.args.len e.args.cap] 24) := ⟨_, rfl⟩
  have hs1 : w.heap.size < W1.heap.size := by rw [hW1]; simp
  have HB1 := hide (show Below w.heap.size w W1 by rw [hW1]; exact (Below.refl _ _).alloc (Nat.le_refl _) _)
  have q0 : W1.cell? ⟨w.heap.size, 0, none⟩ = some (.int .i64 e.k) := by rw [hW1]; simp
  have q1 : W1.cell? ⟨w.heap.size, 1, none⟩ = some (.int .i64 e.n) := by rw [hW1]; simp
  have q2 : W1.cell? ⟨w.heap.size, 2, none⟩ = some (.slice e.args.ad e.args.len e.args.cap) := by rw [hW1]; simp
  rw [← hW1]
  clear hW1
  have HQL := hide (fun (W' : World) (hb : Below W1.heap.size W1 W') => show W'.cell? ⟨w.heap.size, 0, none⟩ = some (.int .i64 e.k) ∧ W'.cell? ⟨w.heap.size, 1, none⟩ = some (.int .i64 e.n) ∧ W'.cell? ⟨w.heap.size, 2, none⟩ = some (.slice e.args.ad e.args.len e.args.cap) from ⟨(hb.cell (p := ⟨w.heap.size, 0, none⟩) hs1).trans q0, (hb.cell (p := ⟨w.heap.size, 1, none⟩) hs1).trans q1, (hb.cell (p := ⟨w.heap.size, 2, none⟩) hs1).trans q2⟩)
  have HA1 := hide ((unhide HA).later (unhide HB1) (Nat.le_refl _))
  have HR1 := hide ((unhide HR).later (unhide HB1) (Nat.le_refl _))
  refine ((unhide HT) _ (unhide HA1) (unhide HR1)).mono ?_
  rintro r w2 ⟨g2, rfl, hr2, hb2⟩
  have HX2 := hide hb2
  have HT2 := hide hr2
  obtain ⟨p0, p1, p2⟩ := (unhide HQL) _ hb2
  clear hb2 hr2 q0 q1 q2
  go_wp2_with fail
  refine ((unhide HC) _ ((unhide HA1).later (unhide HX2) (Nat.le_refl _))).mono ?_
  rintro r w5 ⟨rfl, hb5⟩
  have HX5 := hide ((unhide HX2).trans (hb5.mono (unhide HX2).size))
  have HT5 := hide ((unhide HT2).later hb5 (Nat.le_refl _))
  clear hb5 p0 p1 p2
  obtain ⟨p0, p1, p2⟩ := (unhide HQL) _ (unhide HX5)
  have hl1 : ¬ (l.length : Int) > 4000 := by omega
  go_wp2_with fail
  refine ((unhide HO) _ ((unhide HA1).later (unhide HX5) (Nat.le_refl _)) ((unhide HR1).later (unhide HX5) (Nat.le_refl _))).mono ?_
  rintro r w6 ⟨a6, c6, rfl, hr6, hlb, hb6⟩
  have HX6 := hide ((unhide HX5).trans (hb6.mono (unhide HX5).size))
  have HT6 := hide ((unhide HT5).later hb6 (Nat.le_refl _))
  have HH6 := hide hr6
  have HLB := hide hlb
  clear hb6 hr6 p0 p1 p2 hlb
  go_wp2_with fail
  refine (queryBegun_any _).mono ?_
  rintro r w7 ⟨rfl, hb7⟩
  have HX7 := hide ((unhide HX6).trans (hb7.mono (unhide HX6).size))
  have HT7 := hide ((unhide HT6).later hb7 (Nat.le_refl _))
  have HH7 := hide ((unhide HH6).later hb7 (Nat.le_refl _))
  clear hb7
  go_wp2_with fail
  refine ((unhide HSB) _ (unhide HLB) _ _ _ _ _ (unhide HT7) (unhide HH7)).mono ?_
  rintro r w8 ⟨rfl, hb8⟩
  have HX8 := hide ((unhide HB1).trans (((unhide HX7).trans (hb8.mono (unhide HX7).size)).mono (unhide HB1).size))
  clear hb8
  go_wp2_with fail
  go_ret
  exact ⟨rfl, unhide HX8⟩

set_option maxRecDepth 100000 in
set_option maxHeartbeats 1600000 in
theorem qholds_err (n : Nat) (e : Qk.E) (x : Qk.AT n) (len : Nat) (ad : Option Addr) (cap : Nat) (w : World) (h : Qk.RA w n e x) (hf : len ≤ 35184372088832) (h0 : Qk.hErr n x len ≠ 0) :
    Calls Tryz.prog 6 #[e.val, .slice ad len cap] w fun r w' => r = .returned (.bool true) ∧ Below w.heap.size w w' := by
  have HT := hide (fun (W : World) (h : Qk.RA W n e x) => Holds_err n e x len ad cap W h hf h0)
  have HC := hide (fun (W : World) (h : Qk.RA W n e x) => CheckAsk_any n e x W h)
  have HE := hide (show Qk.hErr n x len = if Qk.chk n x = 0 then (if 4000 < len then 2 else 0) else Qk.chk n x from rfl)
  have HO := hide True.intro
  have HSB := hide (fun (W : World) => SameBools_eq [] none none 0 0 W ⟨fun i s h => by simp at h⟩ ⟨fun i s h => by simp at h⟩ (by decide))
  have HZ := hide h0
  have HA := hide h
  clear h h0
  generalize Qk.hErr n x len = E at *
  generalize Qk.chk n x = C at *
  unfold Qk.E.val at HT HC ⊢
  go_enter Tryz.func6, Tryz.ntmps6
  go_wp2_with fail
  obtain ⟨W1, hW1⟩ : ∃ W1, W1 = w.alloc (.cells #[.int .i64 e.k, .int .i64 e.n, .slice e.args.ad e.args.len e.args.cap] 24) := ⟨_, rfl⟩
  have hs1 : w.heap.size < W1.heap.size := by rw [hW1]; simp
  have HB1 := hide (show Below w.heap.size w W1 by rw [hW1]; exact (Below.refl _ _).alloc (Nat.le_refl _) _)
  have q0 : W1.cell? ⟨w.heap.size, 0, none⟩ = some (.int .i64 e.k) := by rw [hW1]; simp
  have q1 : W1.cell? ⟨w.heap.size, 1, none⟩ = some (.int .i64 e.n) := by rw [hW1]; simp
  have q2 : W1.cell? ⟨w.heap.size, 2, none⟩ = some (.slice e.args.ad e.args.len e.args.cap) := by rw [hW1]; simp
  rw [← hW1]
  clear hW1
  have HQL := hide (fun (W' : World) (hb : Below W1.heap.size W1 W') => show W'.cell? ⟨w.heap.size, 0, none⟩ = some (.int .i64 e.k) ∧ W'.cell? ⟨w.heap.size, 1, none⟩ = some (.int .i64 e.n) ∧ W'.cell? ⟨w.heap.size, 2, none⟩ = some (.slice e.args.ad e.args.len e.args.cap) from ⟨(hb.cell (p := ⟨w.heap.size, 0, none⟩) hs1).trans q0, (hb.cell (p := ⟨w.heap.size, 1, none⟩) hs1).trans q1, (hb.cell (p := ⟨w.heap.size, 2, none⟩) hs1).trans q2⟩)
  have HA1 := hide ((unhide HA).later (unhide HB1) (Nat.le_refl _))
  refine ((unhide HT) _ (unhide HA1)).mono ?_
  rintro r w2 ⟨rfl, hb2⟩
  have HX2 := hide hb2
  obtain ⟨p0, p1, p2⟩ := (unhide HQL) _ hb2
  clear hb2 q0 q1 q2
  go_wp2_with fail
  refine ((unhide HC) _ ((unhide HA1).later (unhide HX2) (Nat.le_refl _))).mono ?_
  rintro r w5 ⟨rfl, hb5⟩
  have HX5 := hide ((unhide HX2).trans (hb5.mono (unhide HX2).size))
  clear hb5 p0 p1 p2
  by_cases hC : C = 0
  · have h1 : 4000 < len := by
      have h2 := unhide HZ
      rw [unhide HE, if_pos hC] at h2
      by_cases h3 : 4000 < len
      · exact h3
      · rw [if_neg h3] at h2; exact absurd rfl h2
    have hE : E = 2 := by rw [unhide HE, if_pos hC, if_pos h1]
    subst hC hE
    have hl1 : (len : Int) > 4000 := by omega
    go_wp2_with fail
    refine (queryBegun_any _).mono ?_
    rintro r w7 ⟨rfl, hb7⟩
    have HX7 := hide ((unhide HX5).trans (hb7.mono (unhide HX5).size))
    clear hb7
    go_wp2_with fail
    refine ((unhide HSB) _).mono ?_
    rintro r w8 ⟨rfl, hb8⟩
    have HX8 := hide ((unhide HB1).trans (((unhide HX7).trans (hb8.mono (unhide HX7).size)).mono (unhide HB1).size))
    clear hb8
    go_wp2_with fail
    go_ret
    exact ⟨rfl, unhide HX8⟩
  · have hE : E = C := by rw [unhide HE, if_neg hC]
    subst hE
    have hc1 : ((E : Nat) : Int) ≠ 0 := by omega
    have hc2 : (((E : Nat) : Int) == 0) = false := by simp; omega
    have hc3 : (((E : Nat) : Int) == (E : Nat)) = true := by simp
    go_wp2_with fail
    refine (queryBegun_any _).mono ?_
    rintro r w7 ⟨rfl, hb7⟩
    have HX7 := hide ((unhide HX5).trans (hb7.mono (unhide HX5).size))
    clear hb7
    go_wp2_with fail
    refine ((unhide HSB) _).mono ?_
    rintro r w8 ⟨rfl, hb8⟩
    have HX8 := hide ((unhide HB1).trans (((unhide HX7).trans (hb8.mono (unhide HX7).size)).mono (unhide HB1).size))
    clear hb8
    go_wp2_with fail
    go_ret
    exact ⟨rfl, unhide HX8⟩
end Go.Proofs.YtgibipidokkjbaaGreatDoor
