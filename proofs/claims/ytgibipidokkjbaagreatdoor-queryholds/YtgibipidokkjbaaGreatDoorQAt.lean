/-
  The contract of the document's own HoldsAt. By the verifier.
-/
import Derived.Test.YtgibipidokkjbaaGreatDoorQTellerOf
namespace Go.Proofs.YtgibipidokkjbaaGreatDoor
open Go.RowKit
set_option linter.unusedVariables false

set_option maxRecDepth 100000 in
set_option maxHeartbeats 1600000 in
theorem at_1 (n : Int) (l : List Ev) (ad qa : Option Addr) (cap qn qc an ac : Nat) (t : Nat) (w : World) (hr : Cl.RE w ad l) (aa : Option Addr) (ht : t < l.length) (hf : l.length ≤ 4000) :
    Calls Tryz.prog 37 #[.agg #[.int .i64 1, .int .i64 n, .slice qa qn qc], .slice ad l.length cap, .slice aa an ac, .int .i64 (t : Nat)] w fun e w' => e = .returned (.bool (Qk.fitsAt 1 n l t)) ∧ Below w.heap.size w w' := by
  obtain ⟨x, hx⟩ : ∃ x, l[t]? = some x := ⟨l[t], List.getElem?_eq_getElem ht⟩
  obtain ⟨b, o, rfl, hb, c0, c1, c2, c3, c4, c5⟩ := hr.at_ t x hx
  have hk1 : (0 : Int) ≤ (t : Int) := by omega
  have hk2 : (t : Int) < (l.length : Int) := by omega
  have HM := hide (show Qk.fitsAt 1 n l t = Ix.fits 1 n x by simp [Qk.fitsAt, hx])
  have HF := hide (fun W => show Calls Tryz.prog 51 #[.agg #[.int .i64 x.n0, .int .i64 x.n1, .int .i64 x.n2, .int .i64 x.n3, .int .i64 x.n4, .int .i64 x.n5], .int .i64 1, .int .i64 n] W fun r w' => r = .returned (.bool (Ix.fits 1 n x)) ∧ Below W.heap.size W w' from Fits_any x 1 n W)
  clear hr hx
  generalize Qk.fitsAt 1 n l t = M at *
  go_enter Tryz.func37, Tryz.ntmps37
  go_wp2_with fail
  go_region_with (first | (go_at_call 51; refine ((unhide HF) _).mono ?_; rintro r w1 ⟨rfl, hb1⟩; have HB1 := hide (((Below.refl w.heap.size w).alloc (Nat.le_refl _) _).drew.trans (hb1.mono (by simp))); clear hb1))
  all_goals
    go_wp2_with fail
    go_ret
    exact ⟨ret_bool (unhide HM).symm, unhide HB1⟩

set_option maxRecDepth 100000 in
set_option maxHeartbeats 1600000 in
theorem at_2 (n : Int) (l : List Ev) (ad qa : Option Addr) (cap qn qc an ac : Nat) (t : Nat) (w : World) (hr : Cl.RE w ad l) (aa : Option Addr) (ht : t < l.length) (hf : l.length ≤ 4000) :
    Calls Tryz.prog 37 #[.agg #[.int .i64 2, .int .i64 n, .slice qa qn qc], .slice ad l.length cap, .slice aa an ac, .int .i64 (t : Nat)] w fun e w' => e = .returned (.bool (Qk.fitsAt 2 n l t)) ∧ Below w.heap.size w w' := by
  obtain ⟨x, hx⟩ : ∃ x, l[t]? = some x := ⟨l[t], List.getElem?_eq_getElem ht⟩
  obtain ⟨b, o, rfl, hb, c0, c1, c2, c3, c4, c5⟩ := hr.at_ t x hx
  have hk1 : (0 : Int) ≤ (t : Int) := by omega
  have hk2 : (t : Int) < (l.length : Int) := by omega
  have HM := hide (show Qk.fitsAt 2 n l t = Ix.fits 2 n x by simp [Qk.fitsAt, hx])
  have HF := hide (fun W => show Calls Tryz.prog 51 #[.agg #[.int .i64 x.n0, .int .i64 x.n1, .int .i64 x.n2, .int .i64 x.n3, .int .i64 x.n4, .int .i64 x.n5], .int .i64 2, .int .i64 n] W fun r w' => r = .returned (.bool (Ix.fits 2 n x)) ∧ Below W.heap.size W w' from Fits_any x 2 n W)
  clear hr hx
  generalize Qk.fitsAt 2 n l t = M at *
  go_enter Tryz.func37, Tryz.ntmps37
  go_wp2_with fail
  go_region_with (first | (go_at_call 51; refine ((unhide HF) _).mono ?_; rintro r w1 ⟨rfl, hb1⟩; have HB1 := hide (((Below.refl w.heap.size w).alloc (Nat.le_refl _) _).drew.trans (hb1.mono (by simp))); clear hb1))
  all_goals
    go_wp2_with fail
    go_ret
    exact ⟨ret_bool (unhide HM).symm, unhide HB1⟩

set_option maxRecDepth 100000 in
set_option maxHeartbeats 1600000 in
theorem at_3 (n : Int) (l : List Ev) (ad qa : Option Addr) (cap qn qc an ac : Nat) (t : Nat) (w : World) (hr : Cl.RE w ad l) (aa : Option Addr) (ht : t < l.length) (hf : l.length ≤ 4000) :
    Calls Tryz.prog 37 #[.agg #[.int .i64 3, .int .i64 n, .slice qa qn qc], .slice ad l.length cap, .slice aa an ac, .int .i64 (t : Nat)] w fun e w' => e = .returned (.bool (Qk.fitsAt 5 n l t)) ∧ Below w.heap.size w w' := by
  obtain ⟨x, hx⟩ : ∃ x, l[t]? = some x := ⟨l[t], List.getElem?_eq_getElem ht⟩
  obtain ⟨b, o, rfl, hb, c0, c1, c2, c3, c4, c5⟩ := hr.at_ t x hx
  have hk1 : (0 : Int) ≤ (t : Int) := by omega
  have hk2 : (t : Int) < (l.length : Int) := by omega
  have HM := hide (show Qk.fitsAt 5 n l t = Ix.fits 5 n x by simp [Qk.fitsAt, hx])
  have HF := hide (fun W => show Calls Tryz.prog 51 #[.agg #[.int .i64 x.n0, .int .i64 x.n1, .int .i64 x.n2, .int .i64 x.n3, .int .i64 x.n4, .int .i64 x.n5], .int .i64 5, .int .i64 n] W fun r w' => r = .returned (.bool (Ix.fits 5 n x)) ∧ Below W.heap.size W w' from Fits_any x 5 n W)
  clear hr hx
  generalize Qk.fitsAt 5 n l t = M at *
  go_enter Tryz.func37, Tryz.ntmps37
  go_wp2_with fail
  go_region_with (first | (go_at_call 51; refine ((unhide HF) _).mono ?_; rintro r w1 ⟨rfl, hb1⟩; have HB1 := hide (((Below.refl w.heap.size w).alloc (Nat.le_refl _) _).drew.trans (hb1.mono (by simp))); clear hb1))
  all_goals
    go_wp2_with fail
    go_ret
    exact ⟨ret_bool (unhide HM).symm, unhide HB1⟩

set_option maxRecDepth 100000 in
set_option maxHeartbeats 1600000 in
theorem at_4 (n : Int) (l : List Ev) (ad qa : Option Addr) (cap qn qc an ac : Nat) (t : Nat) (w : World) (hr : Cl.RE w ad l) (aa : Option Addr) (ht : t < l.length) (hf : l.length ≤ 4000) :
    Calls Tryz.prog 37 #[.agg #[.int .i64 4, .int .i64 n, .slice qa qn qc], .slice ad l.length cap, .slice aa an ac, .int .i64 (t : Nat)] w fun e w' => e = .returned (.bool (Qk.fitsAt 4 (-1) l t)) ∧ Below w.heap.size w w' := by
  obtain ⟨x, hx⟩ : ∃ x, l[t]? = some x := ⟨l[t], List.getElem?_eq_getElem ht⟩
  obtain ⟨b, o, rfl, hb, c0, c1, c2, c3, c4, c5⟩ := hr.at_ t x hx
  have hk1 : (0 : Int) ≤ (t : Int) := by omega
  have hk2 : (t : Int) < (l.length : Int) := by omega
  have HM := hide (show Qk.fitsAt 4 (-1) l t = (x.n0 == 4) by simp [Qk.fitsAt, hx, Ix.fits]; rfl)
  clear hr hx
  generalize Qk.fitsAt 4 (-1) l t = M at *
  go_enter Tryz.func37, Tryz.ntmps37
  go_wp2_with fail
  go_ret
  exact ⟨ret_bool (unhide HM).symm, (Below.refl _ _).alloc (Nat.le_refl _) _⟩

set_option maxRecDepth 100000 in
set_option maxHeartbeats 1600000 in
theorem at_5 (n : Int) (l : List Ev) (ad qa : Option Addr) (cap qn qc an ac : Nat) (t : Nat) (w : World) (hr : Cl.RE w ad l) (aa : Option Addr) (ht : t < l.length) (hf : l.length ≤ 4000) :
    Calls Tryz.prog 37 #[.agg #[.int .i64 5, .int .i64 n, .slice qa qn qc], .slice ad l.length cap, .slice aa an ac, .int .i64 (t : Nat)] w fun e w' => e = .returned (.bool ((l[t]?).any (fun e => decide (e.n5 < n)))) ∧ Below w.heap.size w w' := by
  obtain ⟨x, hx⟩ : ∃ x, l[t]? = some x := ⟨l[t], List.getElem?_eq_getElem ht⟩
  obtain ⟨b, o, rfl, hb, c0, c1, c2, c3, c4, c5⟩ := hr.at_ t x hx
  have hk1 : (0 : Int) ≤ (t : Int) := by omega
  have hk2 : (t : Int) < (l.length : Int) := by omega
  have HM := hide (show (l[t]?).any (fun e => decide (e.n5 < n)) = decide (x.n5 < n) by rw [hx]; rfl)
  clear hr hx
  generalize (l[t]?).any (fun e => decide (e.n5 < n)) = M at *
  go_enter Tryz.func37, Tryz.ntmps37
  go_wp2_with fail
  go_quiet (fail)
  go_wp2_with fail
  go_ret
  exact ⟨ret_bool ((show _ = _ from rfl).trans (unhide HM).symm), below_drewN ((Below.refl _ _).alloc (Nat.le_refl _) _) _⟩

set_option maxRecDepth 100000 in
set_option maxHeartbeats 1600000 in
theorem at_6 (n : Int) (l : List Ev) (ad qa : Option Addr) (cap qn qc an ac : Nat) (t : Nat) (w : World) (hr : Cl.RE w ad l) (aa : Option Addr) (ht : t < l.length) (hf : l.length ≤ 4000) :
    Calls Tryz.prog 37 #[.agg #[.int .i64 6, .int .i64 n, .slice qa qn qc], .slice ad l.length cap, .slice aa an ac, .int .i64 (t : Nat)] w fun e w' => e = .returned (.bool ((l[t]?).any (fun e => decide (e.n5 = n)))) ∧ Below w.heap.size w w' := by
  obtain ⟨x, hx⟩ : ∃ x, l[t]? = some x := ⟨l[t], List.getElem?_eq_getElem ht⟩
  obtain ⟨b, o, rfl, hb, c0, c1, c2, c3, c4, c5⟩ := hr.at_ t x hx
  have hk1 : (0 : Int) ≤ (t : Int) := by omega
  have hk2 : (t : Int) < (l.length : Int) := by omega
  have HM := hide (show (l[t]?).any (fun e => decide (e.n5 = n)) = decide (x.n5 = n) by rw [hx]; rfl)
  clear hr hx
  generalize (l[t]?).any (fun e => decide (e.n5 = n)) = M at *
  go_enter Tryz.func37, Tryz.ntmps37
  go_wp2_with fail
  go_quiet (fail)
  go_wp2_with fail
  go_ret
  exact ⟨ret_bool ((show _ = _ from rfl).trans (unhide HM).symm), below_drewN ((Below.refl _ _).alloc (Nat.le_refl _) _) _⟩

set_option maxRecDepth 100000 in
set_option maxHeartbeats 1600000 in
theorem at_7 (n : Int) (l : List Ev) (ad qa : Option Addr) (cap qn qc ga ca g0 c0 : Nat) (t : Nat) (w : World) (hr : Cl.RE w ad l) (s0 : List Bool) (h0 : w.cell? ⟨ga, 0, none⟩ = some (.slice (some ⟨g0, 0, none⟩) l.length c0)) (r0 : Qk.Row w g0 s0) (e0 : s0.length = l.length) (ht : t < l.length) (hf : l.length ≤ 4000) :
    Calls Tryz.prog 37 #[.agg #[.int .i64 7, .int .i64 n, .slice qa qn qc], .slice ad l.length cap, .slice (some ⟨ga, 0, none⟩) 1 ca, .int .i64 (t : Nat)] w fun e w' => e = .returned (.bool (!Qk.at_ s0 t)) ∧ Below w.heap.size w w' := by
  have p0 := r0.cell (Qk.at_get (b := s0) (i := t) (by omega))
  have hk1 : (0 : Int) ≤ (t : Int) := by omega
  have hk2 : (t : Int) < (l.length : Int) := by omega
  have l0 := r0.lt
  have l1 := World.block_lt_of_cell? w _ h0
  clear r0 e0 hr
  generalize Qk.at_ s0 t = x at *
  go_enter Tryz.func37, Tryz.ntmps37
  go_wp2_with fail
  go_ret
  exact ⟨rfl, (Below.refl _ _).alloc (Nat.le_refl _) _⟩

set_option maxRecDepth 100000 in
set_option maxHeartbeats 1600000 in
theorem at_8 (n : Int) (l : List Ev) (ad qa : Option Addr) (cap qn qc ga ca g0 c0 g1 c1 : Nat) (t : Nat) (w : World) (hr : Cl.RE w ad l) (s0 : List Bool) (h0 : w.cell? ⟨ga, 0, none⟩ = some (.slice (some ⟨g0, 0, none⟩) l.length c0)) (r0 : Qk.Row w g0 s0) (e0 : s0.length = l.length) (s1 : List Bool) (h1 : w.cell? ⟨ga, 1, none⟩ = some (.slice (some ⟨g1, 0, none⟩) l.length c1)) (r1 : Qk.Row w g1 s1) (e1 : s1.length = l.length) (ht : t < l.length) (hf : l.length ≤ 4000) :
    Calls Tryz.prog 37 #[.agg #[.int .i64 8, .int .i64 n, .slice qa qn qc], .slice ad l.length cap, .slice (some ⟨ga, 0, none⟩) 2 ca, .int .i64 (t : Nat)] w fun e w' => e = .returned (.bool (Qk.at_ s0 t && Qk.at_ s1 t)) ∧ Below w.heap.size w w' := by
  have p0 := r0.cell (Qk.at_get (b := s0) (i := t) (by omega))
  have hk1 : (0 : Int) ≤ (t : Int) := by omega
  have hk2 : (t : Int) < (l.length : Int) := by omega
  have l0 := r0.lt
  have l1 := World.block_lt_of_cell? w _ h0
  have p1 := r1.cell (Qk.at_get (b := s1) (i := t) (by omega))
  have l2 := r1.lt
  clear r0 e0 r1 e1 hr
  generalize Qk.at_ s0 t = x at *
  generalize Qk.at_ s1 t = y at *
  cases x <;> cases y
  · go_enter Tryz.func37, Tryz.ntmps37
    go_wp2_with fail
    go_ret
    exact ⟨rfl, (Below.refl _ _).alloc (Nat.le_refl _) _⟩
  · go_enter Tryz.func37, Tryz.ntmps37
    go_wp2_with fail
    go_ret
    exact ⟨rfl, (Below.refl _ _).alloc (Nat.le_refl _) _⟩
  · go_enter Tryz.func37, Tryz.ntmps37
    go_wp2_with fail
    go_ret
    exact ⟨rfl, (Below.refl _ _).alloc (Nat.le_refl _) _⟩
  · go_enter Tryz.func37, Tryz.ntmps37
    go_wp2_with fail
    go_ret
    exact ⟨rfl, (Below.refl _ _).alloc (Nat.le_refl _) _⟩

set_option maxRecDepth 100000 in
set_option maxHeartbeats 1600000 in
theorem at_9 (n : Int) (l : List Ev) (ad qa : Option Addr) (cap qn qc ga ca g0 c0 g1 c1 : Nat) (t : Nat) (w : World) (hr : Cl.RE w ad l) (s0 : List Bool) (h0 : w.cell? ⟨ga, 0, none⟩ = some (.slice (some ⟨g0, 0, none⟩) l.length c0)) (r0 : Qk.Row w g0 s0) (e0 : s0.length = l.length) (s1 : List Bool) (h1 : w.cell? ⟨ga, 1, none⟩ = some (.slice (some ⟨g1, 0, none⟩) l.length c1)) (r1 : Qk.Row w g1 s1) (e1 : s1.length = l.length) (ht : t < l.length) (hf : l.length ≤ 4000) :
    Calls Tryz.prog 37 #[.agg #[.int .i64 9, .int .i64 n, .slice qa qn qc], .slice ad l.length cap, .slice (some ⟨ga, 0, none⟩) 2 ca, .int .i64 (t : Nat)] w fun e w' => e = .returned (.bool (Qk.at_ s0 t || Qk.at_ s1 t)) ∧ Below w.heap.size w w' := by
  have p0 := r0.cell (Qk.at_get (b := s0) (i := t) (by omega))
  have hk1 : (0 : Int) ≤ (t : Int) := by omega
  have hk2 : (t : Int) < (l.length : Int) := by omega
  have l0 := r0.lt
  have l1 := World.block_lt_of_cell? w _ h0
  have p1 := r1.cell (Qk.at_get (b := s1) (i := t) (by omega))
  have l2 := r1.lt
  clear r0 e0 r1 e1 hr
  generalize Qk.at_ s0 t = x at *
  generalize Qk.at_ s1 t = y at *
  cases x <;> cases y
  · go_enter Tryz.func37, Tryz.ntmps37
    go_wp2_with fail
    go_ret
    exact ⟨rfl, (Below.refl _ _).alloc (Nat.le_refl _) _⟩
  · go_enter Tryz.func37, Tryz.ntmps37
    go_wp2_with fail
    go_ret
    exact ⟨rfl, (Below.refl _ _).alloc (Nat.le_refl _) _⟩
  · go_enter Tryz.func37, Tryz.ntmps37
    go_wp2_with fail
    go_ret
    exact ⟨rfl, (Below.refl _ _).alloc (Nat.le_refl _) _⟩
  · go_enter Tryz.func37, Tryz.ntmps37
    go_wp2_with fail
    go_ret
    exact ⟨rfl, (Below.refl _ _).alloc (Nat.le_refl _) _⟩

set_option maxRecDepth 100000 in
set_option maxHeartbeats 1600000 in
theorem at_10 (n : Int) (l : List Ev) (ad qa : Option Addr) (cap qn qc ga ca g0 c0 : Nat) (t : Nat) (w : World) (hr : Cl.RE w ad l) (s0 : List Bool) (h0 : w.cell? ⟨ga, 0, none⟩ = some (.slice (some ⟨g0, 0, none⟩) l.length c0)) (r0 : Qk.Row w g0 s0) (e0 : s0.length = l.length) (ht : t < l.length) (hf : l.length ≤ 4000) :
    Calls Tryz.prog 37 #[.agg #[.int .i64 10, .int .i64 n, .slice qa qn qc], .slice ad l.length cap, .slice (some ⟨ga, 0, none⟩) 1 ca, .int .i64 (t : Nat)] w fun e w' => e = .returned (.bool (decide (0 < t) && Qk.at_ s0 (t - 1))) ∧ Below w.heap.size w w' := by
  have p0 := r0.cell (Qk.at_get (b := s0) (i := t - 1) (by omega))
  have l0 := r0.lt
  have l1 := World.block_lt_of_cell? w _ h0
  clear r0 e0 hr
  cases t with
  | zero =>
    clear p0
    go_enter Tryz.func37, Tryz.ntmps37
    go_wp2_with fail
    go_ret
    exact ⟨rfl, (Below.refl _ _).alloc (Nat.le_refl _) _⟩
  | succ t =>
    rw [Nat.add_sub_cancel] at p0 ⊢
    rw [show (decide (0 < t + 1) && Qk.at_ s0 t) = Qk.at_ s0 t by simp]
    generalize Qk.at_ s0 t = x at *
    have hk1 : (0 : Int) ≤ (t : Int) := by omega
    have hk2 : (t : Int) < (l.length : Int) := by omega
    go_enter Tryz.func37, Tryz.ntmps37
    go_wp2_with fail
    go_ret
    exact ⟨rfl, (Below.refl _ _).alloc (Nat.le_refl _) _⟩

set_option maxRecDepth 100000 in
set_option maxHeartbeats 1600000 in
theorem at_11 (n : Int) (l : List Ev) (ad qa : Option Addr) (cap qn qc ga ca g0 c0 : Nat) (t : Nat) (w : World) (hr : Cl.RE w ad l) (s0 : List Bool) (h0 : w.cell? ⟨ga, 0, none⟩ = some (.slice (some ⟨g0, 0, none⟩) l.length c0)) (r0 : Qk.Row w g0 s0) (e0 : s0.length = l.length) (ht : t < l.length) (hf : l.length ≤ 4000) :
    Calls Tryz.prog 37 #[.agg #[.int .i64 11, .int .i64 n, .slice qa qn qc], .slice ad l.length cap, .slice (some ⟨ga, 0, none⟩) 1 ca, .int .i64 (t : Nat)] w fun e w' => e = .returned (.bool (Qk.onceTo s0 (t + 1))) ∧ Below w.heap.size w w' := by
  have HP0 := hide (fun (u : Nat) (hu : u < l.length) => r0.cell (Qk.at_get (b := s0) (i := u) (by omega)))
  have l0 := r0.lt
  have l1 := World.block_lt_of_cell? w _ h0
  clear r0 e0 hr
  obtain ⟨M, hM⟩ : ∃ M, M = Qk.onceTo s0 (t + 1) := ⟨_, rfl⟩
  rw [← hM]
  have HM := hide hM
  clear hM
  go_enter Tryz.func37, Tryz.ntmps37
  go_wp2_with fail
  go_loop [10] (fun uv => ∃ u : Int, -1 ≤ u ∧ u ≤ (t : Nat) ∧ uv = .int .i64 u ∧ M = Qk.onceTo s0 (u + 1).toNat) (fun uv => (intOf uv + 1).toNat)
  case atStart => exact ⟨(t : Nat), by omega, Int.le_refl _, rfl, by rw [unhide HM]; rfl⟩
  case round =>
    obtain ⟨u, hu1, hu2, rfl, hMu⟩ := hrel
    have HMU := hide hMu
    clear hMu
    by_cases hneg : u < 0
    · have hu : u = -1 := by omega
      subst hu
      have HZ := hide (show M = false by rw [unhide HMU]; rfl)
      go_wp2_with fail
      go_ret
      exact ⟨ret_bool (by rw [unhide HZ]), (Below.refl _ _).alloc (Nat.le_refl _) _⟩
    · obtain ⟨v, rfl⟩ : ∃ v : Nat, u = (v : Int) := ⟨u.toNat, by omega⟩
      have q0 := (unhide HP0) v (by omega)
      have HMV := hide (show M = Qk.onceTo s0 (v + 1) by rw [unhide HMU]; rfl)
      have hv1 : (0 : Int) ≤ (v : Int) := by omega
      have hv2 : (v : Int) < (l.length : Int) := by omega
      cases hx : Qk.at_ s0 v
      · rw [hx] at q0
        have HN := hide (show M = Qk.onceTo s0 v by rw [unhide HMV]; show (Qk.onceTo s0 v || Qk.at_ s0 v) = _; rw [hx]; simp)
        clear hx
        go_wp2_with fail
        go_round
        case rel => exact ⟨(v : Int) - 1, by omega, by omega, by go_num, by rw [unhide HN, show ((v : Int) - 1 + 1).toNat = v by omega]⟩
        case measure => simp [intOf]
      · rw [hx] at q0
        have HZ := hide (show M = true by rw [unhide HMV]; show (Qk.onceTo s0 v || Qk.at_ s0 v) = _; rw [hx]; simp)
        go_wp2_with fail
        go_ret
        exact ⟨ret_bool (unhide HZ).symm, (Below.refl _ _).alloc (Nat.le_refl _) _⟩

set_option maxRecDepth 100000 in
set_option maxHeartbeats 1600000 in
theorem at_12 (n : Int) (l : List Ev) (ad qa : Option Addr) (cap qn qc ga ca g0 c0 : Nat) (t : Nat) (w : World) (hr : Cl.RE w ad l) (s0 : List Bool) (h0 : w.cell? ⟨ga, 0, none⟩ = some (.slice (some ⟨g0, 0, none⟩) l.length c0)) (r0 : Qk.Row w g0 s0) (e0 : s0.length = l.length) (ht : t < l.length) (hf : l.length ≤ 4000) :
    Calls Tryz.prog 37 #[.agg #[.int .i64 12, .int .i64 n, .slice qa qn qc], .slice ad l.length cap, .slice (some ⟨ga, 0, none⟩) 1 ca, .int .i64 (t : Nat)] w fun e w' => e = .returned (.bool (Qk.allTo s0 (t + 1))) ∧ Below w.heap.size w w' := by
  have HP0 := hide (fun (u : Nat) (hu : u < l.length) => r0.cell (Qk.at_get (b := s0) (i := u) (by omega)))
  have l0 := r0.lt
  have l1 := World.block_lt_of_cell? w _ h0
  clear r0 e0 hr
  obtain ⟨M, hM⟩ : ∃ M, M = Qk.allTo s0 (t + 1) := ⟨_, rfl⟩
  rw [← hM]
  have HM := hide hM
  clear hM
  go_enter Tryz.func37, Tryz.ntmps37
  go_wp2_with fail
  go_loop [10] (fun uv => ∃ u : Int, -1 ≤ u ∧ u ≤ (t : Nat) ∧ uv = .int .i64 u ∧ M = Qk.allTo s0 (u + 1).toNat) (fun uv => (intOf uv + 1).toNat)
  case atStart => exact ⟨(t : Nat), by omega, Int.le_refl _, rfl, by rw [unhide HM]; rfl⟩
  case round =>
    obtain ⟨u, hu1, hu2, rfl, hMu⟩ := hrel
    have HMU := hide hMu
    clear hMu
    by_cases hneg : u < 0
    · have hu : u = -1 := by omega
      subst hu
      have HZ := hide (show M = true by rw [unhide HMU]; rfl)
      go_wp2_with fail
      go_ret
      exact ⟨ret_bool (by rw [unhide HZ]), (Below.refl _ _).alloc (Nat.le_refl _) _⟩
    · obtain ⟨v, rfl⟩ : ∃ v : Nat, u = (v : Int) := ⟨u.toNat, by omega⟩
      have q0 := (unhide HP0) v (by omega)
      have HMV := hide (show M = Qk.allTo s0 (v + 1) by rw [unhide HMU]; rfl)
      have hv1 : (0 : Int) ≤ (v : Int) := by omega
      have hv2 : (v : Int) < (l.length : Int) := by omega
      cases hx : Qk.at_ s0 v
      · rw [hx] at q0
        have HZ := hide (show M = false by rw [unhide HMV]; show (Qk.allTo s0 v && Qk.at_ s0 v) = _; rw [hx]; simp)
        go_wp2_with fail
        go_ret
        exact ⟨ret_bool (unhide HZ).symm, (Below.refl _ _).alloc (Nat.le_refl _) _⟩
      · rw [hx] at q0
        have HN := hide (show M = Qk.allTo s0 v by rw [unhide HMV]; show (Qk.allTo s0 v && Qk.at_ s0 v) = _; rw [hx]; simp)
        clear hx
        go_wp2_with fail
        go_round
        case rel => exact ⟨(v : Int) - 1, by omega, by omega, by go_num, by rw [unhide HN, show ((v : Int) - 1 + 1).toNat = v by omega]⟩
        case measure => simp [intOf]

set_option maxRecDepth 100000 in
set_option maxHeartbeats 1600000 in
theorem at_13 (n : Int) (l : List Ev) (ad qa : Option Addr) (cap qn qc ga ca g0 c0 g1 c1 : Nat) (t : Nat) (w : World) (hr : Cl.RE w ad l) (s0 : List Bool) (h0 : w.cell? ⟨ga, 0, none⟩ = some (.slice (some ⟨g0, 0, none⟩) l.length c0)) (r0 : Qk.Row w g0 s0) (e0 : s0.length = l.length) (s1 : List Bool) (h1 : w.cell? ⟨ga, 1, none⟩ = some (.slice (some ⟨g1, 0, none⟩) l.length c1)) (r1 : Qk.Row w g1 s1) (e1 : s1.length = l.length) (ht : t < l.length) (hf : l.length ≤ 4000) :
    Calls Tryz.prog 37 #[.agg #[.int .i64 13, .int .i64 n, .slice qa qn qc], .slice ad l.length cap, .slice (some ⟨ga, 0, none⟩) 2 ca, .int .i64 (t : Nat)] w fun e w' => e = .returned (.bool (Qk.sinceTo s0 s1 (t + 1))) ∧ Below w.heap.size w w' := by
  have HP0 := hide (fun (u : Nat) (hu : u < l.length) => r0.cell (Qk.at_get (b := s0) (i := u) (by omega)))
  have l0 := r0.lt
  have l1 := World.block_lt_of_cell? w _ h0
  have HP1 := hide (fun (u : Nat) (hu : u < l.length) => r1.cell (Qk.at_get (b := s1) (i := u) (by omega)))
  have l2 := r1.lt
  clear r0 e0 hr r1 e1
  obtain ⟨M, hM⟩ : ∃ M, M = Qk.sinceTo s0 s1 (t + 1) := ⟨_, rfl⟩
  rw [← hM]
  have HM := hide hM
  clear hM
  go_enter Tryz.func37, Tryz.ntmps37
  go_wp2_with fail
  go_loop [10] (fun uv => ∃ u : Int, -1 ≤ u ∧ u ≤ (t : Nat) ∧ uv = .int .i64 u ∧ M = Qk.sinceTo s0 s1 (u + 1).toNat) (fun uv => (intOf uv + 1).toNat)
  case atStart => exact ⟨(t : Nat), by omega, Int.le_refl _, rfl, by rw [unhide HM]; rfl⟩
  case round =>
    obtain ⟨u, hu1, hu2, rfl, hMu⟩ := hrel
    have HMU := hide hMu
    clear hMu
    by_cases hneg : u < 0
    · have hu : u = -1 := by omega
      subst hu
      have HZ := hide (show M = false by rw [unhide HMU]; rfl)
      go_wp2_with fail
      go_ret
      exact ⟨ret_bool (by rw [unhide HZ]), (Below.refl _ _).alloc (Nat.le_refl _) _⟩
    · obtain ⟨v, rfl⟩ : ∃ v : Nat, u = (v : Int) := ⟨u.toNat, by omega⟩
      have q0 := (unhide HP0) v (by omega)
      have q1 := (unhide HP1) v (by omega)
      have HMV := hide (show M = Qk.sinceTo s0 s1 (v + 1) by rw [unhide HMU]; rfl)
      have hv1 : (0 : Int) ≤ (v : Int) := by omega
      have hv2 : (v : Int) < (l.length : Int) := by omega
      cases hy : Qk.at_ s1 v
      · rw [hy] at q1
        cases hx : Qk.at_ s0 v
        · rw [hx] at q0
          have HZ := hide (show M = false by rw [unhide HMV]; show (Qk.at_ s1 v || (Qk.sinceTo s0 s1 v && Qk.at_ s0 v)) = _; rw [hx, hy]; simp)
          go_wp2_with fail
          go_ret
          exact ⟨ret_bool (unhide HZ).symm, (Below.refl _ _).alloc (Nat.le_refl _) _⟩
        · rw [hx] at q0
          have HN := hide (show M = Qk.sinceTo s0 s1 v by rw [unhide HMV]; show (Qk.at_ s1 v || (Qk.sinceTo s0 s1 v && Qk.at_ s0 v)) = _; rw [hx, hy]; simp)
          clear hx hy
          go_wp2_with fail
          go_round
          case rel => exact ⟨(v : Int) - 1, by omega, by omega, by go_num, by rw [unhide HN, show ((v : Int) - 1 + 1).toNat = v by omega]⟩
          case measure => simp [intOf]
      · rw [hy] at q1
        have HZ := hide (show M = true by rw [unhide HMV]; show (Qk.at_ s1 v || (Qk.sinceTo s0 s1 v && Qk.at_ s0 v)) = _; rw [hy]; simp)
        go_wp2_with fail
        go_ret
        exact ⟨ret_bool (unhide HZ).symm, (Below.refl _ _).alloc (Nat.le_refl _) _⟩

set_option maxRecDepth 100000 in
set_option maxHeartbeats 1600000 in
theorem at_14 (n : Int) (l : List Ev) (ad qa : Option Addr) (cap qn qc ga ca g0 c0 : Nat) (t : Nat) (w : World) (hr : Cl.RE w ad l) (s0 : List Bool) (h0 : w.cell? ⟨ga, 0, none⟩ = some (.slice (some ⟨g0, 0, none⟩) l.length c0)) (r0 : Qk.Row w g0 s0) (e0 : s0.length = l.length) (ht : t < l.length) (hf : l.length ≤ 4000) :
    Calls Tryz.prog 37 #[.agg #[.int .i64 14, .int .i64 n, .slice qa qn qc], .slice ad l.length cap, .slice (some ⟨ga, 0, none⟩) 1 ca, .int .i64 (t : Nat)] w fun e w' => e = .returned (.bool (Qk.soonAt s0 n t)) ∧ Below w.heap.size w w' := by
  have HP0 := hide (fun (u : Nat) (hu : u < l.length) => r0.cell (Qk.at_get (b := s0) (i := u) (by omega)))
  have l0 := r0.lt
  have l1 := World.block_lt_of_cell? w _ h0
  have HX := hide (show ∀ m : Nat, t ≤ m → m ≤ l.length → (∀ u, t ≤ u → u < m → Qk.at_ s0 u = false) → (m = l.length ∨ Qk.at_ s0 m = true) → Qk.soonAt s0 n t = (decide (m < l.length) && decide ((m : Int) - (t : Int) ≤ n)) from fun m h1 h2 h3 h4 => by
    unfold Qk.soonAt
    rw [Qk.nx_is h1 (by omega) h3 (by rw [e0]; exact h4), e0])
  have HY := hide (show ∀ m : Nat, t ≤ m → m ≤ l.length → (∀ u, t ≤ u → u < m → Qk.at_ s0 u = false) → ¬ (m : Int) - (t : Int) ≤ n → Qk.soonAt s0 n t = false from fun m h1 h2 h3 h4 => by
    have h5 : m ≤ Qk.nx s0 t := by
      rcases Nat.lt_or_ge (Qk.nx s0 t) m with h | h
      · have h6 := Qk.nx_at (b := s0) (t := t) (by omega)
        rw [h3 _ (Qk.nx_ge s0 t) h] at h6
        cases h6
      · exact h
    unfold Qk.soonAt
    rw [decide_eq_false (show ¬ ((Qk.nx s0 t : Nat) : Int) - (t : Nat) ≤ n by omega), Bool.and_false])
  clear r0 e0 hr
  generalize Qk.soonAt s0 n t = SA at *
  go_enter Tryz.func37, Tryz.ntmps37
  go_wp2_with fail
  go_loop [9] (fun uv => ∃ m : Nat, t ≤ m ∧ m ≤ l.length ∧ uv = .int .i64 (m : Nat) ∧ (∀ u, t ≤ u → u < m → Qk.at_ s0 u = false)) (fun uv => l.length - (intOf uv).toNat)
  case atStart => exact ⟨t, Nat.le_refl _, by omega, rfl, fun u h1 h2 => by omega⟩
  case round =>
    obtain ⟨m, h1', h2', rfl, h3'⟩ := hrel
    have H3 := hide h3'
    clear h3'
    have hv1 : (0 : Int) ≤ (m : Int) := by omega
    by_cases hml : m < l.length
    · have q0 := (unhide HP0) m hml
      have hv2 : (m : Int) < (l.length : Int) := by omega
      by_cases hmn : (m : Int) - (t : Int) ≤ n
      · cases hx : Qk.at_ s0 m
        · rw [hx] at q0
          have H4 := hide (show ∀ u, t ≤ u → u < m + 1 → Qk.at_ s0 u = false from fun u a b => by
            rcases Nat.lt_or_ge u m with h | h
            · exact (unhide H3) u a h
            · rw [show u = m by omega]; exact hx)
          clear hx
          go_wp2_with fail
          go_round
          case rel => exact ⟨m + 1, by omega, by omega, by go_num, unhide H4⟩
          case measure => simp [intOf]; omega
        · rw [hx] at q0
          have HZ := hide (show SA = true by rw [(unhide HX) m h1' h2' (unhide H3) (Or.inr hx)]; simp [hml, hmn])
          clear hx
          go_wp2_with fail
          go_ret
          exact ⟨ret_bool (unhide HZ).symm, (Below.refl _ _).alloc (Nat.le_refl _) _⟩
      · have HZ := hide (show SA = false from (unhide HY) m h1' h2' (unhide H3) (by omega))
        go_wp2_with fail
        go_ret
        exact ⟨ret_bool (unhide HZ).symm, (Below.refl _ _).alloc (Nat.le_refl _) _⟩
    · have HZ := hide (show SA = false by rw [(unhide HX) m h1' h2' (unhide H3) (Or.inl (by omega))]; simp [hml])
      have hv2 : ¬ (m : Int) < (l.length : Int) := by omega
      go_wp2_with fail
      go_ret
      exact ⟨ret_bool (unhide HZ).symm, (Below.refl _ _).alloc (Nat.le_refl _) _⟩

theorem HoldsAt_any (k n : Int) (l : List Ev) (ad qa : Option Addr) (cap qn qc : Nat) (v : Value) (s : List (List Bool)) (t : Nat) (w : World) (hr : Cl.RE w ad l) (hk : Qk.isK k = true) (hg : Qk.RG w v s l.length) (hs : s.length = Qk.argsN k) (ht : t < l.length) (hf : l.length ≤ 4000) :
    Calls Tryz.prog 37 #[.agg #[.int .i64 k, .int .i64 n, .slice qa qn qc], .slice ad l.length cap, v, .int .i64 (t : Nat)] w fun e w' => e = .returned (.bool (Qk.ev k n l (Qk.sub s 0) (Qk.sub s 1) t)) ∧ Below w.heap.size w w' := by
  rcases Qk.kinds hk with rfl | rfl | rfl | rfl | rfl | rfl | rfl | rfl | rfl | rfl | rfl | rfl | rfl | rfl
  · obtain ⟨a, c, rfl⟩ := hg.sl
    exact at_1 n l ad qa cap qn qc _ _ t w hr _ ht hf
  · obtain ⟨a, c, rfl⟩ := hg.sl
    exact at_2 n l ad qa cap qn qc _ _ t w hr _ ht hf
  · obtain ⟨a, c, rfl⟩ := hg.sl
    exact at_3 n l ad qa cap qn qc _ _ t w hr _ ht hf
  · obtain ⟨a, c, rfl⟩ := hg.sl
    exact at_4 n l ad qa cap qn qc _ _ t w hr _ ht hf
  · obtain ⟨a, c, rfl⟩ := hg.sl
    exact at_5 n l ad qa cap qn qc _ _ t w hr _ ht hf
  · obtain ⟨a, c, rfl⟩ := hg.sl
    exact at_6 n l ad qa cap qn qc _ _ t w hr _ ht hf
  · obtain ⟨s0, ga, ca, g0, c0, rfl, rfl, h0, r0, e0⟩ := hg.one hs
    exact at_7 n l ad qa cap qn qc ga ca g0 c0 t w hr s0 h0 r0 e0 ht hf
  · obtain ⟨s0, s1, ga, ca, g0, c0, g1, c1, rfl, rfl, h0, r0, e0, h1, r1, e1⟩ := hg.two hs
    exact at_8 n l ad qa cap qn qc ga ca g0 c0 g1 c1 t w hr s0 h0 r0 e0 s1 h1 r1 e1 ht hf
  · obtain ⟨s0, s1, ga, ca, g0, c0, g1, c1, rfl, rfl, h0, r0, e0, h1, r1, e1⟩ := hg.two hs
    exact at_9 n l ad qa cap qn qc ga ca g0 c0 g1 c1 t w hr s0 h0 r0 e0 s1 h1 r1 e1 ht hf
  · obtain ⟨s0, ga, ca, g0, c0, rfl, rfl, h0, r0, e0⟩ := hg.one hs
    exact at_10 n l ad qa cap qn qc ga ca g0 c0 t w hr s0 h0 r0 e0 ht hf
  · obtain ⟨s0, ga, ca, g0, c0, rfl, rfl, h0, r0, e0⟩ := hg.one hs
    exact at_11 n l ad qa cap qn qc ga ca g0 c0 t w hr s0 h0 r0 e0 ht hf
  · obtain ⟨s0, ga, ca, g0, c0, rfl, rfl, h0, r0, e0⟩ := hg.one hs
    exact at_12 n l ad qa cap qn qc ga ca g0 c0 t w hr s0 h0 r0 e0 ht hf
  · obtain ⟨s0, s1, ga, ca, g0, c0, g1, c1, rfl, rfl, h0, r0, e0, h1, r1, e1⟩ := hg.two hs
    exact at_13 n l ad qa cap qn qc ga ca g0 c0 g1 c1 t w hr s0 h0 r0 e0 s1 h1 r1 e1 ht hf
  · obtain ⟨s0, ga, ca, g0, c0, rfl, rfl, h0, r0, e0⟩ := hg.one hs
    exact at_14 n l ad qa cap qn qc ga ca g0 c0 t w hr s0 h0 r0 e0 ht hf
end Go.Proofs.YtgibipidokkjbaaGreatDoor
