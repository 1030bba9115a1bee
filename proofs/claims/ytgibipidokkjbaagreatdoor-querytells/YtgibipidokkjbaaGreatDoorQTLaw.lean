/-
  The walk of QueryTells. By the verifier.
-/
import Derived.Test.YtgibipidokkjbaaGreatDoorQBegun
import Derived.Test.YtgibipidokkjbaaGreatDoorQAskOf
namespace Go.Proofs.YtgibipidokkjbaaGreatDoor
open Go.RowKit
set_option linter.unusedVariables false

set_option maxRecDepth 100000 in
set_option maxHeartbeats 800000 in
theorem Print_ok (n : Nat) (e : Qk.E) (x : Qk.AT n) (w : World) (h : Qk.RA w n e x) (h0 : Qk.chk n x = 0) (htab : Qd.tab w) :
    Calls Tryz.prog 8 #[e.val] w fun r w' => r = .returned (.tuple #[.string (Qk.text n x), .int .i64 0]) ∧ Below w.heap.size w w' := by
  have hok := Qk.chk_ok h0
  have HC := hide (fun (W : World) (h : Qk.RA W n e x) => show Calls Tryz.prog 12 #[.agg #[.int .i64 e.k, .int .i64 e.n, .slice e.args.ad e.args.len e.args.cap]] W fun r w' => r = .returned (.int .i64 0) ∧ Below W.heap.size W w' by
    have := qCheck_any n e x W h
    rw [h0] at this
    exact this)
  have HT := hide (fun (W : World) (h : Qk.RA W n e x) (hb : Below w.heap.size w W) => show Calls Tryz.prog 21 #[.agg #[.int .i64 e.k, .int .i64 e.n, .slice e.args.ad e.args.len e.args.cap]] W fun r w' => r = .returned (.string (Qk.text n x)) ∧ Below W.heap.size W w' from textOf_any n e x W h hok.2 hok.1 (Qd.tab_later htab hb))
  have HA := hide h
  clear h h0 htab hok
  unfold Qk.E.val
  go_enter Tryz.func8, Tryz.ntmps8
  go_wp2_with fail
  refine ((unhide HC) _ ((unhide HA).alloc _)).mono ?_
  rintro r w1 ⟨rfl, hb1⟩
  have q0 : w1.cell? ⟨w.heap.size, 0, none⟩ = some (.int .i64 e.k) := (hb1.cell (p := ⟨w.heap.size, 0, none⟩) (by simp)).trans (by simp)
  have q1 : w1.cell? ⟨w.heap.size, 1, none⟩ = some (.int .i64 e.n) := (hb1.cell (p := ⟨w.heap.size, 1, none⟩) (by simp)).trans (by simp)
  have q2 : w1.cell? ⟨w.heap.size, 2, none⟩ = some (.slice e.args.ad e.args.len e.args.cap) := (hb1.cell (p := ⟨w.heap.size, 2, none⟩) (by simp)).trans (by simp)
  have HB1 := hide (below_two hb1)
  clear hb1
  go_wp2_with fail
  refine ((unhide HT) _ ((unhide HA).later (unhide HB1) (Nat.le_refl _)) (unhide HB1)).mono ?_
  rintro r w2 ⟨rfl, hb2⟩
  have HB2 := hide ((unhide HB1).trans (hb2.mono (unhide HB1).size))
  clear hb2
  go_wp2_with fail
  go_ret2
  exact ⟨rfl, unhide HB2⟩

set_option maxRecDepth 100000 in
set_option maxHeartbeats 800000 in
theorem Print_err (n : Nat) (e : Qk.E) (x : Qk.AT n) (w : World) (h : Qk.RA w n e x) (h0 : Qk.chk n x ≠ 0) :
    Calls Tryz.prog 8 #[e.val] w fun r w' => r = .returned (.tuple #[.string ⟨#[]⟩, .int .i64 (Qk.chk n x : Nat)]) ∧ Below w.heap.size w w' := by
  have HC := hide (fun (W : World) (h : Qk.RA W n e x) => qCheck_any n e x W h)
  have HA := hide h
  generalize Qk.chk n x = C at *
  have hc1 : ((C : Nat) : Int) ≠ 0 := by omega
  have hc2 : (((C : Nat) : Int) != 0) = true := by simp; omega
  clear h h0
  unfold Qk.E.val at HC ⊢
  go_enter Tryz.func8, Tryz.ntmps8
  go_wp2_with fail
  refine ((unhide HC) _ ((unhide HA).alloc _)).mono ?_
  rintro r w1 ⟨rfl, hb1⟩
  have HB1 := hide (below_two hb1)
  clear hb1
  go_wp2_with fail
  go_ret2
  exact ⟨rfl, unhide HB1⟩

set_option maxRecDepth 100000 in
set_option maxHeartbeats 1600000 in
theorem qtells_ok (n : Nat) (e : Qk.E) (x : Qk.AT n) (w : World) (h : Qk.RA w n e x) (h0 : Qk.chk n x = 0) (htab : Qd.tab w) :
    Calls Tryz.prog 3 #[e.val] w fun r w' => r = .returned (.bool true) ∧ Below w.heap.size w w' := by
  have hok := Qk.chk_ok h0
  have HP := hide (fun (W : World) (h : Qk.RA W n e x) (hb : Below w.heap.size w W) => Print_ok n e x W h h0 (Qd.tab_later htab hb))
  have HC := hide (fun (W : World) (h : Qk.RA W n e x) => show Calls Tryz.prog 9 #[e.val] W fun r w' => r = .returned (.int .i64 0) ∧ Below W.heap.size W w' by
    have := CheckAsk_any n e x W h
    rw [h0] at this
    exact this)
  have HK := hide (fun (W : World) (h : Qk.RA W n e x) => show Calls Tryz.prog 12 #[e.val] W fun r w' => r = .returned (.int .i64 0) ∧ Below W.heap.size W w' by
    have := qCheck_any n e x W h
    rw [h0] at this
    exact this)
  have HT := hide (fun (W : World) (h : Qk.RA W n e x) => AskText_any n e x W h hok.2 hok.1)
  have HA := hide h
  clear h h0 htab hok
  generalize Qk.text n x = T at *
  have hTT : (T.toList == T.toList) = true := by simp
  unfold Qk.E.val at HP HC HK HT ⊢
  go_enter Tryz.func3, Tryz.ntmps3
  go_wp2_with fail
  obtain ⟨W1, hW1⟩ : ∃ W1, W1 = w.alloc (.cells #[.int .i64 e.k, .int .i64 e.n, .slice e.args.ad e.args.len e.args.cap] 24) := ⟨_, rfl⟩
  have hs1 : w.heap.size < W1.heap.size := by rw [hW1]; simp
  have HB1 := hide (show Below w.heap.size w W1 by rw [hW1]; exact (Below.refl _ _).alloc (Nat.le_refl _) _)
  have q0 : W1.cell? ⟨w.heap.size, 0, none⟩ = some (.int .i64 e.k) := by rw [hW1]; simp
  have q1 : W1.cell? ⟨w.heap.size, 1, none⟩ = some (.int .i64 e.n) := by rw [hW1]; simp
  have q2 : W1.cell? ⟨w.heap.size, 2, none⟩ = some (.slice e.args.ad e.args.len e.args.cap) := by rw [hW1]; simp
  rw [← hW1]
  clear hW1
  have HQL := hide (fun (W' : World) (hb : Below W1.heap.size W1 W') => show W'.cell? ⟨w.heap.size, 0, none⟩ = some (.int .i64 e.k) ∧ W'.cell? ⟨w.heap.size, 1, none⟩ = some (.int .i64 e.n) ∧ W'.cell? ⟨w.heap.size, 2, none⟩ = some (.slice e.args.ad e.args.len e.args.cap) from ⟨(hb.cell (p := ⟨w.heap.size, 0, none⟩) hs1).trans q0, (hb.cell (p := ⟨w.heap.size, 1, none⟩) hs1).trans q1, (hb.cell (p := ⟨w.heap.size, 2, none⟩) hs1).trans q2⟩)
  have HA1 := hide ((unhide HA).later (unhide HB1) (Nat.le_refl _))
  refine ((unhide HP) _ (unhide HA1) (unhide HB1)).mono ?_
  rintro r w2 ⟨rfl, hb2⟩
  have HX2 := hide hb2
  obtain ⟨p0, p1, p2⟩ := (unhide HQL) _ hb2
  clear hb2 q0 q1 q2
  go_wp2_with fail
  refine ((unhide HC) _ ((unhide HA1).later (unhide HX2) (Nat.le_refl _))).mono ?_
  rintro r w3 ⟨rfl, hb3⟩
  have HX3 := hide ((unhide HX2).trans (hb3.mono (unhide HX2).size))
  clear hb3 p0 p1 p2
  obtain ⟨p0, p1, p2⟩ := (unhide HQL) _ (unhide HX3)
  go_wp2_with fail
  refine ((unhide HT) _ ((unhide HA1).later (unhide HX3) (Nat.le_refl _))).mono ?_
  rintro r w4 ⟨rfl, hb4⟩
  have HX4 := hide ((unhide HX3).trans (hb4.mono (unhide HX3).size))
  clear hb4
  go_wp2_with fail
  refine (queryBegun_any _).mono ?_
  rintro r w5 ⟨rfl, hb5⟩
  have HX5 := hide ((unhide HX4).trans (hb5.mono (unhide HX4).size))
  clear hb5 p0 p1 p2
  obtain ⟨p0, p1, p2⟩ := (unhide HQL) _ (unhide HX5)
  go_wp2_with fail
  refine ((unhide HK) _ ((unhide HA1).later (unhide HX5) (Nat.le_refl _))).mono ?_
  rintro r w6 ⟨rfl, hb6⟩
  have HX6 := hide ((unhide HB1).trans (((unhide HX5).trans (hb6.mono (unhide HX5).size)).mono (unhide HB1).size))
  clear hb6
  go_wp2_with fail
  go_ret
  exact ⟨rfl, unhide HX6⟩

set_option maxRecDepth 100000 in
set_option maxHeartbeats 1600000 in
theorem qtells_err (n : Nat) (e : Qk.E) (x : Qk.AT n) (w : World) (h : Qk.RA w n e x) (h0 : Qk.chk n x ≠ 0) :
    Calls Tryz.prog 3 #[e.val] w fun r w' => r = .returned (.bool true) ∧ Below w.heap.size w w' := by
  have HP := hide (fun (W : World) (h : Qk.RA W n e x) => Print_err n e x W h h0)
  have HC := hide (fun (W : World) (h : Qk.RA W n e x) => CheckAsk_any n e x W h)
  have HK := hide (fun (W : World) (h : Qk.RA W n e x) => qCheck_any n e x W h)
  have HA := hide h
  generalize Qk.chk n x = C at *
  have hc1 : ((C : Nat) : Int) ≠ 0 := by omega
  have hc2 : (((C : Nat) : Int) == 0) = false := by simp; omega
  have hc3 : (((C : Nat) : Int) == (C : Nat)) = true := by simp
  clear h h0
  unfold Qk.E.val at HP HC HK ⊢
  go_enter Tryz.func3, Tryz.ntmps3
  go_wp2_with fail
  obtain ⟨W1, hW1⟩ : ∃ W1, W1 = w.alloc (.cells #[.int .i64 e.k, .int .i64 e.n, .slice e.args.ad e.args.len e.args.cap] 24) := ⟨_, rfl⟩
  have hs1 : w.heap.size < W1.heap.size := by rw [hW1]; simp
  have HB1 := hide (show Below w.heap.size w W1 by rw [hW1]; exact (Below.refl _ _).alloc (Nat.le_refl _) _)
  have q0 : W1.cell? ⟨w.heap.size, 0, none⟩ = some (.int .i64 e.k) := by rw [hW1]; simp
  have q1 : W1.cell? ⟨w.heap.size, 1, none⟩ = some (.int .i64 e.n) := by rw [hW1]; simp
  have q2 : W1.cell? ⟨w.heap.size, 2, none⟩ = some (.slice e.args.ad e.args.len e.args.cap) := by rw [hW1]; simp
  rw [← hW1]
  clear hW1
  have HQL := hide (fun (W' : World) (hb : Below W1.heap.size W1 W') => show W'.cell? ⟨w.heap.size, 0, none⟩ = some (.int .i64 e.k) ∧ W'.cell? ⟨w.heap.size, 1, none⟩ = some (.int .i64 e.n) ∧ W'.cell? ⟨w.heap.size, 2, none⟩ = some (.slice e.args.ad e.args.len e.args.cap) from ⟨(hb.cell (p := ⟨w.heap.size, 0, none⟩) hs1).trans q0, (hb.cell (p := ⟨w.heap.size, 1, none⟩) hs1).trans q1, (hb.cell (p := ⟨w.heap.size, 2, none⟩) hs1).trans q2⟩)
  have HA1 := hide ((unhide HA).later (unhide HB1) (Nat.le_refl _))
  refine ((unhide HP) _ (unhide HA1)).mono ?_
  rintro r w2 ⟨rfl, hb2⟩
  have HX2 := hide hb2
  obtain ⟨p0, p1, p2⟩ := (unhide HQL) _ hb2
  clear hb2 q0 q1 q2
  go_wp2_with fail
  refine ((unhide HC) _ ((unhide HA1).later (unhide HX2) (Nat.le_refl _))).mono ?_
  rintro r w3 ⟨rfl, hb3⟩
  have HX3 := hide ((unhide HX2).trans (hb3.mono (unhide HX2).size))
  clear hb3 p0 p1 p2
  obtain ⟨p0, p1, p2⟩ := (unhide HQL) _ (unhide HX3)
  go_wp2_with fail
  refine (queryBegun_any _).mono ?_
  rintro r w5 ⟨rfl, hb5⟩
  have HX5 := hide ((unhide HX3).trans (hb5.mono (unhide HX3).size))
  clear hb5 p0 p1 p2
  obtain ⟨p0, p1, p2⟩ := (unhide HQL) _ (unhide HX5)
  go_wp2_with fail
  refine ((unhide HK) _ ((unhide HA1).later (unhide HX5) (Nat.le_refl _))).mono ?_
  rintro r w6 ⟨rfl, hb6⟩
  have HX6 := hide ((unhide HB1).trans (((unhide HX5).trans (hb6.mono (unhide HX5).size)).mono (unhide HB1).size))
  clear hb6
  go_wp2_with fail
  go_ret
  exact ⟨rfl, unhide HX6⟩

end Go.Proofs.YtgibipidokkjbaaGreatDoor
