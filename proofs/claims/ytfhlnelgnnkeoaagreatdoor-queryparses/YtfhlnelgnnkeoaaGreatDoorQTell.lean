/-
  The closures of package query: what each tells, time by time. By the verifier.
-/
import Derived.Test.YtfhlnelgnnkeoaaGreatDoorQMean
import Derived.Test.YtfhlnelgnnkeoaaGreatDoorIFind
namespace Go.Proofs.YtfhlnelgnnkeoaaGreatDoor
open Go.RowKit
set_option linter.unusedVariables false

theorem Qk.still {hi : Nat} {W0 W : World} (h : Below hi W0 W) {b o : Nat} (hb : b < hi) : W.cell? ⟨b, o, none⟩ = W0.cell? ⟨b, o, none⟩ := h.cell (p := ⟨b, o, none⟩) hb

set_option maxHeartbeats 400000 in
theorem tl_less (l : List Ev) (ad : Option Addr) (cap bl bq lo : Nat) (n : Int) (W0 : World) (hl : W0.cell? ⟨bl, 0, none⟩ = some (.slice ad l.length cap)) (hq : W0.cell? ⟨bq, 1, none⟩ = some (.int .i64 n)) (hr : Cl.RE W0 ad l) (hf : l.length ≤ 4000) :
    Qk.Tl 65 #[.pointer (some ⟨bl, 0, none⟩), .pointer (some ⟨bq, 0, none⟩)] l.length lo W0.heap.size (fun t => (l[t]?).any (fun e => decide (e.n5 < n))) (fun _ W => Below W0.heap.size W0 W) := by
  refine ⟨Tryz.call65, fun t W W' h hb => h.trans hb, fun t W ht hI hh => ?_⟩
  obtain ⟨x, hx⟩ : ∃ x, l[t]? = some x := ⟨l[t], List.getElem?_eq_getElem ht⟩
  have HM := hide (show (l[t]?).any (fun e => decide (e.n5 < n)) = decide (x.n5 < n) by rw [hx]; rfl)
  obtain ⟨b, o, rfl, hb, c0, c1, c2, c3, c4, c5⟩ := (hr.later hI (Nat.le_refl _)).at_ t x hx
  have p1 := (Qk.still hI (World.block_lt_of_cell? W0 _ hl)).trans hl
  have p2 := (Qk.still hI (World.block_lt_of_cell? W0 _ hq)).trans hq
  have HI := hide hI
  have hk1 : (0 : Int) ≤ (t : Int) := by omega
  have hk2 : (t : Int) < (l.length : Int) := by omega
  clear hl hq hr hx hI c0 c1 c2 c3 c4
  generalize (l[t]?).any (fun e => decide (e.n5 < n)) = M at *
  show Calls Tryz.prog 65 #[.int .i64 (t : Nat), .pointer (some ⟨bl, 0, none⟩), .pointer (some ⟨bq, 0, none⟩)] W _
  go_enter Tryz.func65, Tryz.ntmps65
  go_wp2_with fail
  go_quiet (fail)
  go_wp2_with fail
  go_ret
  exact ⟨ret_bool (unhide HM).symm, below_drewN (unhide HI) _, Qk.Only.of_below (below_drewN (Below.refl _ _) _)⟩
set_option maxHeartbeats 400000 in
theorem tl_same (l : List Ev) (ad : Option Addr) (cap bl bq lo : Nat) (n : Int) (W0 : World) (hl : W0.cell? ⟨bl, 0, none⟩ = some (.slice ad l.length cap)) (hq : W0.cell? ⟨bq, 1, none⟩ = some (.int .i64 n)) (hr : Cl.RE W0 ad l) (hf : l.length ≤ 4000) :
    Qk.Tl 66 #[.pointer (some ⟨bl, 0, none⟩), .pointer (some ⟨bq, 0, none⟩)] l.length lo W0.heap.size (fun t => (l[t]?).any (fun e => decide (e.n5 = n))) (fun _ W => Below W0.heap.size W0 W) := by
  refine ⟨Tryz.call66, fun t W W' h hb => h.trans hb, fun t W ht hI hh => ?_⟩
  obtain ⟨x, hx⟩ : ∃ x, l[t]? = some x := ⟨l[t], List.getElem?_eq_getElem ht⟩
  have HM := hide (show (l[t]?).any (fun e => decide (e.n5 = n)) = decide (x.n5 = n) by rw [hx]; rfl)
  obtain ⟨b, o, rfl, hb, c0, c1, c2, c3, c4, c5⟩ := (hr.later hI (Nat.le_refl _)).at_ t x hx
  have p1 := (Qk.still hI (World.block_lt_of_cell? W0 _ hl)).trans hl
  have p2 := (Qk.still hI (World.block_lt_of_cell? W0 _ hq)).trans hq
  have HI := hide hI
  have hk1 : (0 : Int) ≤ (t : Int) := by omega
  have hk2 : (t : Int) < (l.length : Int) := by omega
  clear hl hq hr hx hI c0 c1 c2 c3 c4
  generalize (l[t]?).any (fun e => decide (e.n5 = n)) = M at *
  show Calls Tryz.prog 66 #[.int .i64 (t : Nat), .pointer (some ⟨bl, 0, none⟩), .pointer (some ⟨bq, 0, none⟩)] W _
  go_enter Tryz.func66, Tryz.ntmps66
  go_wp2_with fail
  go_quiet (fail)
  go_wp2_with fail
  go_ret
  exact ⟨ret_bool ((show _ = _ from rfl).trans (unhide HM).symm), below_drewN (unhide HI) _, Qk.Only.of_below (below_drewN (Below.refl _ _) _)⟩

set_option maxHeartbeats 400000 in
theorem tl_not (s0 : List Bool) (bt ga ca g0 c0 len lo : Nat) (W0 : World) (ha : W0.cell? ⟨bt, 0, none⟩ = some (.slice (some ⟨ga, 0, none⟩) 1 ca)) (h0 : W0.cell? ⟨ga, 0, none⟩ = some (.slice (some ⟨g0, 0, none⟩) len c0)) (r0 : Qk.Row W0 g0 s0) (e0 : s0.length = len) (hf : len ≤ 4000) :
    Qk.Tl 67 #[.pointer (some ⟨bt, 0, none⟩)] len lo W0.heap.size (fun t => !Qk.at_ s0 t) (fun _ W => Below W0.heap.size W0 W) := by
  refine ⟨Tryz.call67, fun t W W' h hb => h.trans hb, fun t W ht hI hh => ?_⟩
  have p1 := (Qk.still hI (World.block_lt_of_cell? W0 _ ha)).trans ha
  have p2 := (Qk.still hI (World.block_lt_of_cell? W0 _ h0)).trans h0
  have p3 := (r0.kept (hI.block g0 r0.lt)).cell (Qk.at_get (b := s0) (i := t) (by omega))
  have HI := hide hI
  have hk1 : (0 : Int) ≤ (t : Int) := by omega
  have hk2 : (t : Int) < (len : Int) := by omega
  clear ha h0 r0 e0 hI
  show Calls Tryz.prog 67 #[.int .i64 (t : Nat), .pointer (some ⟨bt, 0, none⟩)] W fun e W' => e = .returned (.bool (!Qk.at_ s0 t)) ∧ _
  generalize Qk.at_ s0 t = x at *
  go_enter Tryz.func67, Tryz.ntmps67
  go_wp2_with fail
  go_ret
  exact ⟨rfl, unhide HI, Qk.Only.of_below (Below.refl _ _)⟩

set_option maxHeartbeats 400000 in
theorem tl_and (s0 s1 : List Bool) (bt ga ca g0 c0 g1 c1 len lo : Nat) (W0 : World) (ha : W0.cell? ⟨bt, 0, none⟩ = some (.slice (some ⟨ga, 0, none⟩) 2 ca)) (h0 : W0.cell? ⟨ga, 0, none⟩ = some (.slice (some ⟨g0, 0, none⟩) len c0)) (r0 : Qk.Row W0 g0 s0) (e0 : s0.length = len) (h1 : W0.cell? ⟨ga, 1, none⟩ = some (.slice (some ⟨g1, 0, none⟩) len c1)) (r1 : Qk.Row W0 g1 s1) (e1 : s1.length = len) (hf : len ≤ 4000) :
    Qk.Tl 68 #[.pointer (some ⟨bt, 0, none⟩)] len lo W0.heap.size (fun t => Qk.at_ s0 t && Qk.at_ s1 t) (fun _ W => Below W0.heap.size W0 W) := by
  refine ⟨Tryz.call68, fun t W W' h hb => h.trans hb, fun t W ht hI hh => ?_⟩
  have p1 := (Qk.still hI (World.block_lt_of_cell? W0 _ ha)).trans ha
  have p2 := (Qk.still hI (World.block_lt_of_cell? W0 _ h0)).trans h0
  have p3 := (r0.kept (hI.block g0 r0.lt)).cell (Qk.at_get (b := s0) (i := t) (by omega))
  have p4 := (Qk.still hI (World.block_lt_of_cell? W0 _ h1)).trans h1
  have p5 := (r1.kept (hI.block g1 r1.lt)).cell (Qk.at_get (b := s1) (i := t) (by omega))
  have HI := hide hI
  have hk1 : (0 : Int) ≤ (t : Int) := by omega
  have hk2 : (t : Int) < (len : Int) := by omega
  clear ha h0 r0 e0 hI h1 r1 e1
  show Calls Tryz.prog 68 #[.int .i64 (t : Nat), .pointer (some ⟨bt, 0, none⟩)] W fun e W' => e = .returned (.bool (Qk.at_ s0 t && Qk.at_ s1 t)) ∧ _
  generalize Qk.at_ s0 t = x at *
  generalize Qk.at_ s1 t = y at *
  cases x <;> cases y
  · go_enter Tryz.func68, Tryz.ntmps68
    go_wp2_with fail
    go_ret
    exact ⟨rfl, unhide HI, Qk.Only.of_below (Below.refl _ _)⟩
  · go_enter Tryz.func68, Tryz.ntmps68
    go_wp2_with fail
    go_ret
    exact ⟨rfl, unhide HI, Qk.Only.of_below (Below.refl _ _)⟩
  · go_enter Tryz.func68, Tryz.ntmps68
    go_wp2_with fail
    go_ret
    exact ⟨rfl, unhide HI, Qk.Only.of_below (Below.refl _ _)⟩
  · go_enter Tryz.func68, Tryz.ntmps68
    go_wp2_with fail
    go_ret
    exact ⟨rfl, unhide HI, Qk.Only.of_below (Below.refl _ _)⟩

set_option maxHeartbeats 400000 in
theorem tl_or (s0 s1 : List Bool) (bt ga ca g0 c0 g1 c1 len lo : Nat) (W0 : World) (ha : W0.cell? ⟨bt, 0, none⟩ = some (.slice (some ⟨ga, 0, none⟩) 2 ca)) (h0 : W0.cell? ⟨ga, 0, none⟩ = some (.slice (some ⟨g0, 0, none⟩) len c0)) (r0 : Qk.Row W0 g0 s0) (e0 : s0.length = len) (h1 : W0.cell? ⟨ga, 1, none⟩ = some (.slice (some ⟨g1, 0, none⟩) len c1)) (r1 : Qk.Row W0 g1 s1) (e1 : s1.length = len) (hf : len ≤ 4000) :
    Qk.Tl 69 #[.pointer (some ⟨bt, 0, none⟩)] len lo W0.heap.size (fun t => Qk.at_ s0 t || Qk.at_ s1 t) (fun _ W => Below W0.heap.size W0 W) := by
  refine ⟨Tryz.call69, fun t W W' h hb => h.trans hb, fun t W ht hI hh => ?_⟩
  have p1 := (Qk.still hI (World.block_lt_of_cell? W0 _ ha)).trans ha
  have p2 := (Qk.still hI (World.block_lt_of_cell? W0 _ h0)).trans h0
  have p3 := (r0.kept (hI.block g0 r0.lt)).cell (Qk.at_get (b := s0) (i := t) (by omega))
  have p4 := (Qk.still hI (World.block_lt_of_cell? W0 _ h1)).trans h1
  have p5 := (r1.kept (hI.block g1 r1.lt)).cell (Qk.at_get (b := s1) (i := t) (by omega))
  have HI := hide hI
  have hk1 : (0 : Int) ≤ (t : Int) := by omega
  have hk2 : (t : Int) < (len : Int) := by omega
  clear ha h0 r0 e0 hI h1 r1 e1
  show Calls Tryz.prog 69 #[.int .i64 (t : Nat), .pointer (some ⟨bt, 0, none⟩)] W fun e W' => e = .returned (.bool (Qk.at_ s0 t || Qk.at_ s1 t)) ∧ _
  generalize Qk.at_ s0 t = x at *
  generalize Qk.at_ s1 t = y at *
  cases x <;> cases y
  · go_enter Tryz.func69, Tryz.ntmps69
    go_wp2_with fail
    go_ret
    exact ⟨rfl, unhide HI, Qk.Only.of_below (Below.refl _ _)⟩
  · go_enter Tryz.func69, Tryz.ntmps69
    go_wp2_with fail
    go_ret
    exact ⟨rfl, unhide HI, Qk.Only.of_below (Below.refl _ _)⟩
  · go_enter Tryz.func69, Tryz.ntmps69
    go_wp2_with fail
    go_ret
    exact ⟨rfl, unhide HI, Qk.Only.of_below (Below.refl _ _)⟩
  · go_enter Tryz.func69, Tryz.ntmps69
    go_wp2_with fail
    go_ret
    exact ⟨rfl, unhide HI, Qk.Only.of_below (Below.refl _ _)⟩

set_option maxHeartbeats 400000 in
theorem tl_prev (s0 : List Bool) (bt ga ca g0 c0 len lo : Nat) (W0 : World) (ha : W0.cell? ⟨bt, 0, none⟩ = some (.slice (some ⟨ga, 0, none⟩) 1 ca)) (h0 : W0.cell? ⟨ga, 0, none⟩ = some (.slice (some ⟨g0, 0, none⟩) len c0)) (r0 : Qk.Row W0 g0 s0) (e0 : s0.length = len) (hf : len ≤ 4000) :
    Qk.Tl 70 #[.pointer (some ⟨bt, 0, none⟩)] len lo W0.heap.size (fun t => decide (0 < t) && Qk.at_ s0 (t - 1)) (fun _ W => Below W0.heap.size W0 W) := by
  refine ⟨Tryz.call70, fun t W W' h hb => h.trans hb, fun t W ht hI hh => ?_⟩
  have p1 := (Qk.still hI (World.block_lt_of_cell? W0 _ ha)).trans ha
  have p2 := (Qk.still hI (World.block_lt_of_cell? W0 _ h0)).trans h0
  have p3 := (r0.kept (hI.block g0 r0.lt)).cell (Qk.at_get (b := s0) (i := t - 1) (by omega))
  have HI := hide hI
  clear ha h0 r0 e0 hI
  show Calls Tryz.prog 70 #[.int .i64 (t : Nat), .pointer (some ⟨bt, 0, none⟩)] W fun e W' => e = .returned (.bool (decide (0 < t) && Qk.at_ s0 (t - 1))) ∧ _
  cases t with
  | zero =>
    clear p3
    go_enter Tryz.func70, Tryz.ntmps70
    go_wp2_with fail
    go_ret
    exact ⟨rfl, unhide HI, Qk.Only.of_below (Below.refl _ _)⟩
  | succ t =>
    rw [Nat.add_sub_cancel] at p3 ⊢
    have HE := hide (show (decide (0 < t + 1) && Qk.at_ s0 t) = Qk.at_ s0 t by simp)
    rw [unhide HE]
    generalize Qk.at_ s0 t = x at *
    have hk1 : (0 : Int) ≤ (t : Int) := by omega
    have hk2 : (t : Int) < (len : Int) := by omega
    go_enter Tryz.func70, Tryz.ntmps70
    go_wp2_with fail
    go_ret
    exact ⟨rfl, unhide HI, Qk.Only.of_below (Below.refl _ _)⟩
end Go.Proofs.YtfhlnelgnnkeoaaGreatDoor
