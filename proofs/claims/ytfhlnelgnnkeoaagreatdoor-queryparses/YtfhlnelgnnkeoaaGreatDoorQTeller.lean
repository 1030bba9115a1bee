/-
  Contracts of once, all, since, soon and tellerOf of package query. By the verifier.
-/
import Derived.Test.YtfhlnelgnnkeoaaGreatDoorQRem
import Derived.Test.YtfhlnelgnnkeoaaGreatDoorQFound
import Derived.Deep.RegionWith
namespace Go.Proofs.YtfhlnelgnnkeoaaGreatDoor
open Go.RowKit
set_option linter.unusedVariables false

theorem Qk.Tl.low {fid : Nat} {lb : Array Value} {len lo lo' hi : Nat} {M : Nat → Bool} {Inv : Nat → World → Prop} (h : Qk.Tl fid lb len lo hi M Inv) (hl : lo' ≤ lo) : Qk.Tl fid lb len lo' hi M Inv :=
  ⟨h.enter, h.keep, fun t W ht hI hh => (h.call t W ht hI hh).mono fun e W' ⟨h1, h2, h3⟩ => ⟨h1, h2, h3.os, h3.tape, h3.output, h3.size, fun q q1 q2 => h3.block q q1 (by omega)⟩⟩
/-- What is answered is a closure that tells M. -/
def Qk.Teller (e : Ending) (B : Nat) (w' : World) (len : Nat) (M : Nat → Bool) : Prop := ∃ fid lb Inv, e = .returned (.func (.func fid) #[] lb) ∧ Qk.Tl fid lb len B w'.heap.size M Inv ∧ Inv 0 w'
/-- Rows among the call's own: they are no box that is made later. -/
theorem Qk.Row.alloc {W : World} {g : Nat} {s : List Bool} (h : Qk.Row W g s) (o : Obj) : Qk.Row (W.alloc o) g s := h.kept (((Below.refl W.heap.size W).alloc (Nat.le_refl _) o).block g h.lt)

set_option maxHeartbeats 400000 in
theorem mk_once (s0 : List Bool) (g0 c0 len : Nat) (w : World) (r0 : Qk.Row w g0 s0) (e0 : s0.length = len) (hf : len ≤ 4000) :
    Calls Tryz.prog 71 #[.slice (some ⟨g0, 0, none⟩) len c0] w fun e w' => Qk.Teller e w.heap.size w' len (fun t => Qk.onceTo s0 (t + 1)) ∧ Below w.heap.size w w' := by
  obtain ⟨W0, hW0⟩ : ∃ W0, W0 = (w.alloc (.cells #[.slice (some ⟨g0, 0, none⟩) len c0] 38)).alloc (.cells #[.bool false] 4) := ⟨_, rfl⟩
  have HT := hide (tl_once s0 (w.heap.size + 1) w.heap.size g0 c0 len w.heap.size W0 (by rw [hW0]; first | go_simp | (simp; done) | (simp; omega)) (by rw [hW0]; exact (r0.alloc _).alloc _) e0 (by omega) (by rw [hW0]; first | go_simp | (simp; done) | (simp; omega)) (by omega) (by have := r0.lt; omega) hf)
  have HR := hide (show Qk.Rem (w.heap.size + 1) W0.heap.size W0 W0 (.bool false) from ⟨Qk.But1.refl _ _ _, by rw [hW0]; first | go_simp | (simp; done), by rw [hW0]; go_simp⟩)
  clear r0 e0
  subst hW0
  go_enter Tryz.func71, Tryz.ntmps71
  go_wp2_with fail
  go_ret
  exact ⟨⟨_, _, _, rfl, unhide HT, unhide HR⟩, ((Below.refl _ _).alloc (Nat.le_refl _) _).alloc (by simp) _⟩

set_option maxHeartbeats 400000 in
theorem mk_all (s0 : List Bool) (g0 c0 len : Nat) (w : World) (r0 : Qk.Row w g0 s0) (e0 : s0.length = len) (hf : len ≤ 4000) :
    Calls Tryz.prog 72 #[.slice (some ⟨g0, 0, none⟩) len c0] w fun e w' => Qk.Teller e w.heap.size w' len (fun t => Qk.allTo s0 (t + 1)) ∧ Below w.heap.size w w' := by
  obtain ⟨W0, hW0⟩ : ∃ W0, W0 = (w.alloc (.cells #[.slice (some ⟨g0, 0, none⟩) len c0] 38)).alloc (.cells #[.bool true] 4) := ⟨_, rfl⟩
  have HT := hide (tl_all s0 (w.heap.size + 1) w.heap.size g0 c0 len w.heap.size W0 (by rw [hW0]; first | go_simp | (simp; done) | (simp; omega)) (by rw [hW0]; exact (r0.alloc _).alloc _) e0 (by omega) (by rw [hW0]; first | go_simp | (simp; done) | (simp; omega)) (by omega) (by have := r0.lt; omega) hf)
  have HR := hide (show Qk.Rem (w.heap.size + 1) W0.heap.size W0 W0 (.bool true) from ⟨Qk.But1.refl _ _ _, by rw [hW0]; first | go_simp | (simp; done), by rw [hW0]; go_simp⟩)
  clear r0 e0
  subst hW0
  go_enter Tryz.func72, Tryz.ntmps72
  go_wp2_with fail
  go_ret
  exact ⟨⟨_, _, _, rfl, unhide HT, unhide HR⟩, ((Below.refl _ _).alloc (Nat.le_refl _) _).alloc (by simp) _⟩

set_option maxHeartbeats 400000 in
theorem mk_since (s0 s1 : List Bool) (g0 c0 g1 c1 len : Nat) (w : World) (r0 : Qk.Row w g0 s0) (e0 : s0.length = len) (r1 : Qk.Row w g1 s1) (e1 : s1.length = len) (hf : len ≤ 4000) :
    Calls Tryz.prog 73 #[.slice (some ⟨g0, 0, none⟩) len c0, .slice (some ⟨g1, 0, none⟩) len c1] w fun e w' => Qk.Teller e w.heap.size w' len (fun t => Qk.sinceTo s0 s1 (t + 1)) ∧ Below w.heap.size w w' := by
  obtain ⟨W0, hW0⟩ : ∃ W0, W0 = ((w.alloc (.cells #[.slice (some ⟨g0, 0, none⟩) len c0] 38)).alloc (.cells #[.slice (some ⟨g1, 0, none⟩) len c1] 38)).alloc (.cells #[.bool false] 4) := ⟨_, rfl⟩
  have HT := hide (tl_since s0 s1 (w.heap.size + 2) w.heap.size (w.heap.size + 1) g0 c0 g1 c1 len w.heap.size W0 (by rw [hW0]; first | go_simp | (simp; done) | (simp; omega)) (by rw [hW0]; exact ((r0.alloc _).alloc _).alloc _) e0 (by rw [hW0]; first | go_simp | (simp; done) | (simp; omega)) (by rw [hW0]; exact ((r1.alloc _).alloc _).alloc _) e1 (by omega) (by rw [hW0]; first | go_simp | (simp; done) | (simp; omega)) (by omega) (by have := r0.lt; omega) (by omega) (by have := r1.lt; omega) hf)
  have HR := hide (show Qk.Rem (w.heap.size + 2) W0.heap.size W0 W0 (.bool false) from ⟨Qk.But1.refl _ _ _, by rw [hW0]; first | go_simp | (simp; done), by rw [hW0]; go_simp⟩)
  clear r0 e0 r1 e1
  subst hW0
  go_enter Tryz.func73, Tryz.ntmps73
  go_wp2_with fail
  go_ret
  exact ⟨⟨_, _, _, rfl, unhide HT, unhide HR⟩, (((Below.refl _ _).alloc (Nat.le_refl _) _).alloc (by simp) _).alloc (by simp; omega) _⟩

set_option maxHeartbeats 400000 in
theorem mk_soon (s0 : List Bool) (n : Int) (g0 c0 len : Nat) (w : World) (r0 : Qk.Row w g0 s0) (e0 : s0.length = len) (hf : len ≤ 4000) :
    Calls Tryz.prog 74 #[.slice (some ⟨g0, 0, none⟩) len c0, .int .i64 n] w fun e w' => Qk.Teller e w.heap.size w' len (fun t => Qk.soonAt s0 n t) ∧ Below w.heap.size w w' := by
  obtain ⟨W0, hW0⟩ : ∃ W0, W0 = ((w.alloc (.cells #[.slice (some ⟨g0, 0, none⟩) len c0] 38)).alloc (.cells #[.int .i64 n] 3)).alloc (.cells #[.int .i64 0] 3) := ⟨_, rfl⟩
  have HT := hide (tl_soon s0 n (w.heap.size + 2) w.heap.size (w.heap.size + 1) g0 c0 len w.heap.size W0 (by rw [hW0]; first | go_simp | (simp; done) | (simp; omega)) (by rw [hW0]; exact ((r0.alloc _).alloc _).alloc _) e0 (by rw [hW0]; first | go_simp | (simp; done) | (simp; omega)) (by omega) (by rw [hW0]; first | go_simp | (simp; done) | (simp; omega)) (by omega) (by have := r0.lt; omega) (by omega) hf)
  have HR := hide (show Qk.Rem (w.heap.size + 2) W0.heap.size W0 W0 (.int .i64 ((0 : Nat) : Int)) from ⟨Qk.But1.refl _ _ _, by rw [hW0]; first | go_simp | (simp; done), by rw [hW0]; go_simp⟩)
  clear r0 e0
  subst hW0
  go_enter Tryz.func74, Tryz.ntmps74
  go_wp2_with fail
  go_ret
  exact ⟨⟨_, _, _, rfl, unhide HT, 0, by omega, fun u h1 h2 => by omega, unhide HR⟩, (((Below.refl _ _).alloc (Nat.le_refl _) _).alloc (by simp) _).alloc (by simp; omega) _⟩

/-- The world of tellerOf's boxes. -/
def Qk.W3 (w : World) (q l a : Obj) : World := ((w.alloc q).alloc l).alloc a
theorem Qk.W3.below (w : World) (q l a : Obj) : Below w.heap.size w (Qk.W3 w q l a) := (((Below.refl _ _).alloc (Nat.le_refl _) _).alloc (by simp) _).alloc (by simp; omega) _

set_option maxHeartbeats 800000 in
theorem teller_1 (n : Int) (l : List Ev) (ad qa : Option Addr) (cap qn qc an ac : Nat) (w : World) (hr : Cl.RE w ad l) (aa : Option Addr) (hw : ∀ e ∈ l, e.wf) (hn : Ix.wf n) (hf : l.length ≤ 4000) :
    Calls Tryz.prog 50 #[.agg #[.int .i64 1, .int .i64 n, .slice qa qn qc], .slice ad l.length cap, .slice aa an ac] w fun e w' => Qk.Teller e w.heap.size w' l.length (fun t => Qk.fitsAt 1 n l t) ∧ Below w.heap.size w w' := by
  obtain ⟨W3, hW3⟩ : ∃ W3, W3 = ((w.alloc (.cells #[.int .i64 1, .int .i64 n, .slice qa qn qc] 24)).alloc (.cells #[.slice ad l.length cap] 37)).alloc (.cells #[.slice aa an ac] 60) := ⟨_, rfl⟩
  have hB3 : Below w.heap.size w W3 := by rw [hW3]; exact Qk.W3.below _ _ _ _
  have HF := hide (isFound_any l ad cap 1 n W3 (hr.later hB3 (Nat.le_refl _)) hw hn (by unfold Ix.chk; rw [if_neg (by omega)]; rfl))
  have HB3 := hide hB3
  clear hr hw hn hB3
  subst hW3
  go_enter Tryz.func50, Tryz.ntmps50
  go_wp2_with fail
  refine (unhide HF).mono ?_
  rintro e w1 ⟨b, rfl, htl, hb1⟩
  have HTL := hide htl
  have HB1 := hide ((unhide HB3).trans (hb1.mono (by simp; omega)))
  clear htl hb1
  go_wp2_with fail
  go_ret
  exact ⟨⟨_, _, _, rfl, (unhide HTL).low (by simp; omega), Below.refl _ _⟩, unhide HB1⟩

set_option maxHeartbeats 800000 in
theorem teller_2 (n : Int) (l : List Ev) (ad qa : Option Addr) (cap qn qc an ac : Nat) (w : World) (hr : Cl.RE w ad l) (aa : Option Addr) (hw : ∀ e ∈ l, e.wf) (hn : Ix.wf n) (hf : l.length ≤ 4000) :
    Calls Tryz.prog 50 #[.agg #[.int .i64 2, .int .i64 n, .slice qa qn qc], .slice ad l.length cap, .slice aa an ac] w fun e w' => Qk.Teller e w.heap.size w' l.length (fun t => Qk.fitsAt 2 n l t) ∧ Below w.heap.size w w' := by
  obtain ⟨W3, hW3⟩ : ∃ W3, W3 = ((w.alloc (.cells #[.int .i64 2, .int .i64 n, .slice qa qn qc] 24)).alloc (.cells #[.slice ad l.length cap] 37)).alloc (.cells #[.slice aa an ac] 60) := ⟨_, rfl⟩
  have hB3 : Below w.heap.size w W3 := by rw [hW3]; exact Qk.W3.below _ _ _ _
  have HF := hide (isFound_any l ad cap 2 n W3 (hr.later hB3 (Nat.le_refl _)) hw hn (by unfold Ix.chk; rw [if_neg (by omega)]; rfl))
  have HB3 := hide hB3
  clear hr hw hn hB3
  subst hW3
  go_enter Tryz.func50, Tryz.ntmps50
  go_wp2_with fail
  refine (unhide HF).mono ?_
  rintro e w1 ⟨b, rfl, htl, hb1⟩
  have HTL := hide htl
  have HB1 := hide ((unhide HB3).trans (hb1.mono (by simp; omega)))
  clear htl hb1
  go_wp2_with fail
  go_ret
  exact ⟨⟨_, _, _, rfl, (unhide HTL).low (by simp; omega), Below.refl _ _⟩, unhide HB1⟩

set_option maxHeartbeats 800000 in
theorem teller_3 (n : Int) (l : List Ev) (ad qa : Option Addr) (cap qn qc an ac : Nat) (w : World) (hr : Cl.RE w ad l) (aa : Option Addr) (hw : ∀ e ∈ l, e.wf) (hn : Ix.wf n) (hf : l.length ≤ 4000) :
    Calls Tryz.prog 50 #[.agg #[.int .i64 3, .int .i64 n, .slice qa qn qc], .slice ad l.length cap, .slice aa an ac] w fun e w' => Qk.Teller e w.heap.size w' l.length (fun t => Qk.fitsAt 5 n l t) ∧ Below w.heap.size w w' := by
  obtain ⟨W3, hW3⟩ : ∃ W3, W3 = ((w.alloc (.cells #[.int .i64 3, .int .i64 n, .slice qa qn qc] 24)).alloc (.cells #[.slice ad l.length cap] 37)).alloc (.cells #[.slice aa an ac] 60) := ⟨_, rfl⟩
  have hB3 : Below w.heap.size w W3 := by rw [hW3]; exact Qk.W3.below _ _ _ _
  have HF := hide (isFound_any l ad cap 5 n W3 (hr.later hB3 (Nat.le_refl _)) hw hn (by unfold Ix.chk; rw [if_neg (by omega)]; rfl))
  have HB3 := hide hB3
  clear hr hw hn hB3
  subst hW3
  go_enter Tryz.func50, Tryz.ntmps50
  go_wp2_with fail
  refine (unhide HF).mono ?_
  rintro e w1 ⟨b, rfl, htl, hb1⟩
  have HTL := hide htl
  have HB1 := hide ((unhide HB3).trans (hb1.mono (by simp; omega)))
  clear htl hb1
  go_wp2_with fail
  go_ret
  exact ⟨⟨_, _, _, rfl, (unhide HTL).low (by simp; omega), Below.refl _ _⟩, unhide HB1⟩

set_option maxHeartbeats 800000 in
theorem teller_4 (n : Int) (l : List Ev) (ad qa : Option Addr) (cap qn qc an ac : Nat) (w : World) (hr : Cl.RE w ad l) (aa : Option Addr) (hw : ∀ e ∈ l, e.wf) (hn : Ix.wf n) (hf : l.length ≤ 4000) :
    Calls Tryz.prog 50 #[.agg #[.int .i64 4, .int .i64 n, .slice qa qn qc], .slice ad l.length cap, .slice aa an ac] w fun e w' => Qk.Teller e w.heap.size w' l.length (fun t => Qk.fitsAt 4 (-1) l t) ∧ Below w.heap.size w w' := by
  obtain ⟨W3, hW3⟩ : ∃ W3, W3 = ((w.alloc (.cells #[.int .i64 4, .int .i64 n, .slice qa qn qc] 24)).alloc (.cells #[.slice ad l.length cap] 37)).alloc (.cells #[.slice aa an ac] 60) := ⟨_, rfl⟩
  have hB3 : Below w.heap.size w W3 := by rw [hW3]; exact Qk.W3.below _ _ _ _
  have HF := hide (isFound_any l ad cap 4 (-1) W3 (hr.later hB3 (Nat.le_refl _)) hw (show Ix.wf (-1) by exact (rfl : (Lit.int .i64 (-1)).wf = true)) (by unfold Ix.chk; rw [if_neg (by omega)]; rfl))
  have HB3 := hide hB3
  clear hr hw hn hB3
  subst hW3
  go_enter Tryz.func50, Tryz.ntmps50
  go_wp2_with fail
  refine (unhide HF).mono ?_
  rintro e w1 ⟨b, rfl, htl, hb1⟩
  have HTL := hide htl
  have HB1 := hide ((unhide HB3).trans (hb1.mono (by simp; omega)))
  clear htl hb1
  go_wp2_with fail
  go_ret
  exact ⟨⟨_, _, _, rfl, (unhide HTL).low (by simp; omega), Below.refl _ _⟩, unhide HB1⟩

set_option maxHeartbeats 800000 in
theorem teller_5 (n : Int) (l : List Ev) (ad qa : Option Addr) (cap qn qc an ac : Nat) (w : World) (hr : Cl.RE w ad l) (aa : Option Addr) (hf : l.length ≤ 4000) :
    Calls Tryz.prog 50 #[.agg #[.int .i64 5, .int .i64 n, .slice qa qn qc], .slice ad l.length cap, .slice aa an ac] w fun e w' => Qk.Teller e w.heap.size w' l.length (fun t => (l[t]?).any (fun e => decide (e.n5 < n))) ∧ Below w.heap.size w w' := by
  obtain ⟨W3, hW3⟩ : ∃ W3, W3 = ((w.alloc (.cells #[.int .i64 5, .int .i64 n, .slice qa qn qc] 24)).alloc (.cells #[.slice ad l.length cap] 37)).alloc (.cells #[.slice aa an ac] 60) := ⟨_, rfl⟩
  have hB3 : Below w.heap.size w W3 := by rw [hW3]; exact Qk.W3.below _ _ _ _
  have HT := hide (tl_less l ad cap (w.heap.size + 1) w.heap.size w.heap.size n W3 (by rw [hW3]; first | go_simp | (simp; done) | (simp; omega)) (by rw [hW3]; first | go_simp | (simp; done) | (simp; omega)) (hr.later hB3 (Nat.le_refl _)) hf)
  have HB3 := hide hB3
  clear hr hB3
  subst hW3
  go_enter Tryz.func50, Tryz.ntmps50
  go_wp2_with fail
  go_ret
  exact ⟨⟨_, _, _, rfl, unhide HT, Below.refl _ _⟩, unhide HB3⟩

set_option maxHeartbeats 800000 in
theorem teller_6 (n : Int) (l : List Ev) (ad qa : Option Addr) (cap qn qc an ac : Nat) (w : World) (hr : Cl.RE w ad l) (aa : Option Addr) (hf : l.length ≤ 4000) :
    Calls Tryz.prog 50 #[.agg #[.int .i64 6, .int .i64 n, .slice qa qn qc], .slice ad l.length cap, .slice aa an ac] w fun e w' => Qk.Teller e w.heap.size w' l.length (fun t => (l[t]?).any (fun e => decide (e.n5 = n))) ∧ Below w.heap.size w w' := by
  obtain ⟨W3, hW3⟩ : ∃ W3, W3 = ((w.alloc (.cells #[.int .i64 6, .int .i64 n, .slice qa qn qc] 24)).alloc (.cells #[.slice ad l.length cap] 37)).alloc (.cells #[.slice aa an ac] 60) := ⟨_, rfl⟩
  have hB3 : Below w.heap.size w W3 := by rw [hW3]; exact Qk.W3.below _ _ _ _
  have HT := hide (tl_same l ad cap (w.heap.size + 1) w.heap.size w.heap.size n W3 (by rw [hW3]; first | go_simp | (simp; done) | (simp; omega)) (by rw [hW3]; first | go_simp | (simp; done) | (simp; omega)) (hr.later hB3 (Nat.le_refl _)) hf)
  have HB3 := hide hB3
  clear hr hB3
  subst hW3
  go_enter Tryz.func50, Tryz.ntmps50
  go_wp2_with fail
  go_ret
  exact ⟨⟨_, _, _, rfl, unhide HT, Below.refl _ _⟩, unhide HB3⟩

set_option maxHeartbeats 800000 in
theorem teller_7 (n : Int) (l : List Ev) (ad qa : Option Addr) (cap qn qc ga ca g0 c0 : Nat) (w : World) (hr : Cl.RE w ad l) (s0 : List Bool) (h0 : w.cell? ⟨ga, 0, none⟩ = some (.slice (some ⟨g0, 0, none⟩) l.length c0)) (r0 : Qk.Row w g0 s0) (e0 : s0.length = l.length) (hf : l.length ≤ 4000) :
    Calls Tryz.prog 50 #[.agg #[.int .i64 7, .int .i64 n, .slice qa qn qc], .slice ad l.length cap, .slice (some ⟨ga, 0, none⟩) 1 ca] w fun e w' => Qk.Teller e w.heap.size w' l.length (fun t => !Qk.at_ s0 t) ∧ Below w.heap.size w w' := by
  obtain ⟨W3, hW3⟩ : ∃ W3, W3 = ((w.alloc (.cells #[.int .i64 7, .int .i64 n, .slice qa qn qc] 24)).alloc (.cells #[.slice ad l.length cap] 37)).alloc (.cells #[.slice (some ⟨ga, 0, none⟩) 1 ca] 60) := ⟨_, rfl⟩
  have hB3 : Below w.heap.size w W3 := by rw [hW3]; exact Qk.W3.below _ _ _ _
  have q0 := (hB3.cell (p := ⟨ga, 0, none⟩) (World.block_lt_of_cell? w _ h0)).trans h0
  have R0 := r0.kept (hB3.block g0 r0.lt)
  have HT := hide (tl_not s0 (w.heap.size + 2) ga ca g0 c0 l.length w.heap.size W3 (by rw [hW3]; first | go_simp | (simp; done) | (simp; omega)) q0 R0 e0 hf)
  have HB3 := hide hB3
  clear hr hB3 h0 r0 e0 q0 R0
  subst hW3
  go_enter Tryz.func50, Tryz.ntmps50
  go_wp2_with fail
  go_ret
  exact ⟨⟨_, _, _, rfl, unhide HT, Below.refl _ _⟩, unhide HB3⟩

set_option maxHeartbeats 800000 in
theorem teller_8 (n : Int) (l : List Ev) (ad qa : Option Addr) (cap qn qc ga ca g0 c0 g1 c1 : Nat) (w : World) (hr : Cl.RE w ad l) (s0 : List Bool) (h0 : w.cell? ⟨ga, 0, none⟩ = some (.slice (some ⟨g0, 0, none⟩) l.length c0)) (r0 : Qk.Row w g0 s0) (e0 : s0.length = l.length) (s1 : List Bool) (h1 : w.cell? ⟨ga, 1, none⟩ = some (.slice (some ⟨g1, 0, none⟩) l.length c1)) (r1 : Qk.Row w g1 s1) (e1 : s1.length = l.length) (hf : l.length ≤ 4000) :
    Calls Tryz.prog 50 #[.agg #[.int .i64 8, .int .i64 n, .slice qa qn qc], .slice ad l.length cap, .slice (some ⟨ga, 0, none⟩) 2 ca] w fun e w' => Qk.Teller e w.heap.size w' l.length (fun t => Qk.at_ s0 t && Qk.at_ s1 t) ∧ Below w.heap.size w w' := by
  obtain ⟨W3, hW3⟩ : ∃ W3, W3 = ((w.alloc (.cells #[.int .i64 8, .int .i64 n, .slice qa qn qc] 24)).alloc (.cells #[.slice ad l.length cap] 37)).alloc (.cells #[.slice (some ⟨ga, 0, none⟩) 2 ca] 60) := ⟨_, rfl⟩
  have hB3 : Below w.heap.size w W3 := by rw [hW3]; exact Qk.W3.below _ _ _ _
  have q0 := (hB3.cell (p := ⟨ga, 0, none⟩) (World.block_lt_of_cell? w _ h0)).trans h0
  have R0 := r0.kept (hB3.block g0 r0.lt)
  have q1 := (hB3.cell (p := ⟨ga, 1, none⟩) (World.block_lt_of_cell? w _ h1)).trans h1
  have R1 := r1.kept (hB3.block g1 r1.lt)
  have HT := hide (tl_and s0 s1 (w.heap.size + 2) ga ca g0 c0 g1 c1 l.length w.heap.size W3 (by rw [hW3]; first | go_simp | (simp; done) | (simp; omega)) q0 R0 e0 q1 R1 e1 hf)
  have HB3 := hide hB3
  clear hr hB3 h0 r0 e0 q0 R0 h1 r1 e1 q1 R1
  subst hW3
  go_enter Tryz.func50, Tryz.ntmps50
  go_wp2_with fail
  go_ret
  exact ⟨⟨_, _, _, rfl, unhide HT, Below.refl _ _⟩, unhide HB3⟩

set_option maxHeartbeats 800000 in
theorem teller_9 (n : Int) (l : List Ev) (ad qa : Option Addr) (cap qn qc ga ca g0 c0 g1 c1 : Nat) (w : World) (hr : Cl.RE w ad l) (s0 : List Bool) (h0 : w.cell? ⟨ga, 0, none⟩ = some (.slice (some ⟨g0, 0, none⟩) l.length c0)) (r0 : Qk.Row w g0 s0) (e0 : s0.length = l.length) (s1 : List Bool) (h1 : w.cell? ⟨ga, 1, none⟩ = some (.slice (some ⟨g1, 0, none⟩) l.length c1)) (r1 : Qk.Row w g1 s1) (e1 : s1.length = l.length) (hf : l.length ≤ 4000) :
    Calls Tryz.prog 50 #[.agg #[.int .i64 9, .int .i64 n, .slice qa qn qc], .slice ad l.length cap, .slice (some ⟨ga, 0, none⟩) 2 ca] w fun e w' => Qk.Teller e w.heap.size w' l.length (fun t => Qk.at_ s0 t || Qk.at_ s1 t) ∧ Below w.heap.size w w' := by
  obtain ⟨W3, hW3⟩ : ∃ W3, W3 = ((w.alloc (.cells #[.int .i64 9, .int .i64 n, .slice qa qn qc] 24)).alloc (.cells #[.slice ad l.length cap] 37)).alloc (.cells #[.slice (some ⟨ga, 0, none⟩) 2 ca] 60) := ⟨_, rfl⟩
  have hB3 : Below w.heap.size w W3 := by rw [hW3]; exact Qk.W3.below _ _ _ _
  have q0 := (hB3.cell (p := ⟨ga, 0, none⟩) (World.block_lt_of_cell? w _ h0)).trans h0
  have R0 := r0.kept (hB3.block g0 r0.lt)
  have q1 := (hB3.cell (p := ⟨ga, 1, none⟩) (World.block_lt_of_cell? w _ h1)).trans h1
  have R1 := r1.kept (hB3.block g1 r1.lt)
  have HT := hide (tl_or s0 s1 (w.heap.size + 2) ga ca g0 c0 g1 c1 l.length w.heap.size W3 (by rw [hW3]; first | go_simp | (simp; done) | (simp; omega)) q0 R0 e0 q1 R1 e1 hf)
  have HB3 := hide hB3
  clear hr hB3 h0 r0 e0 q0 R0 h1 r1 e1 q1 R1
  subst hW3
  go_enter Tryz.func50, Tryz.ntmps50
  go_wp2_with fail
  go_ret
  exact ⟨⟨_, _, _, rfl, unhide HT, Below.refl _ _⟩, unhide HB3⟩

set_option maxHeartbeats 800000 in
theorem teller_10 (n : Int) (l : List Ev) (ad qa : Option Addr) (cap qn qc ga ca g0 c0 : Nat) (w : World) (hr : Cl.RE w ad l) (s0 : List Bool) (h0 : w.cell? ⟨ga, 0, none⟩ = some (.slice (some ⟨g0, 0, none⟩) l.length c0)) (r0 : Qk.Row w g0 s0) (e0 : s0.length = l.length) (hf : l.length ≤ 4000) :
    Calls Tryz.prog 50 #[.agg #[.int .i64 10, .int .i64 n, .slice qa qn qc], .slice ad l.length cap, .slice (some ⟨ga, 0, none⟩) 1 ca] w fun e w' => Qk.Teller e w.heap.size w' l.length (fun t => decide (0 < t) && Qk.at_ s0 (t - 1)) ∧ Below w.heap.size w w' := by
  obtain ⟨W3, hW3⟩ : ∃ W3, W3 = ((w.alloc (.cells #[.int .i64 10, .int .i64 n, .slice qa qn qc] 24)).alloc (.cells #[.slice ad l.length cap] 37)).alloc (.cells #[.slice (some ⟨ga, 0, none⟩) 1 ca] 60) := ⟨_, rfl⟩
  have hB3 : Below w.heap.size w W3 := by rw [hW3]; exact Qk.W3.below _ _ _ _
  have q0 := (hB3.cell (p := ⟨ga, 0, none⟩) (World.block_lt_of_cell? w _ h0)).trans h0
  have R0 := r0.kept (hB3.block g0 r0.lt)
  have HT := hide (tl_prev s0 (w.heap.size + 2) ga ca g0 c0 l.length w.heap.size W3 (by rw [hW3]; first | go_simp | (simp; done) | (simp; omega)) q0 R0 e0 hf)
  have HB3 := hide hB3
  clear hr hB3 h0 r0 e0 q0 R0
  subst hW3
  go_enter Tryz.func50, Tryz.ntmps50
  go_wp2_with fail
  go_ret
  exact ⟨⟨_, _, _, rfl, unhide HT, Below.refl _ _⟩, unhide HB3⟩

set_option maxHeartbeats 800000 in
theorem teller_11 (n : Int) (l : List Ev) (ad qa : Option Addr) (cap qn qc ga ca g0 c0 : Nat) (w : World) (hr : Cl.RE w ad l) (s0 : List Bool) (h0 : w.cell? ⟨ga, 0, none⟩ = some (.slice (some ⟨g0, 0, none⟩) l.length c0)) (r0 : Qk.Row w g0 s0) (e0 : s0.length = l.length) (hf : l.length ≤ 4000) :
    Calls Tryz.prog 50 #[.agg #[.int .i64 11, .int .i64 n, .slice qa qn qc], .slice ad l.length cap, .slice (some ⟨ga, 0, none⟩) 1 ca] w fun e w' => Qk.Teller e w.heap.size w' l.length (fun t => Qk.onceTo s0 (t + 1)) ∧ Below w.heap.size w w' := by
  obtain ⟨W3, hW3⟩ : ∃ W3, W3 = ((w.alloc (.cells #[.int .i64 11, .int .i64 n, .slice qa qn qc] 24)).alloc (.cells #[.slice ad l.length cap] 37)).alloc (.cells #[.slice (some ⟨ga, 0, none⟩) 1 ca] 60) := ⟨_, rfl⟩
  have hB3 : Below w.heap.size w W3 := by rw [hW3]; exact Qk.W3.below _ _ _ _
  have q0 := (hB3.cell (p := ⟨ga, 0, none⟩) (World.block_lt_of_cell? w _ h0)).trans h0
  have R0 := r0.kept (hB3.block g0 r0.lt)
  have HF := hide (mk_once s0 g0 c0 l.length W3 R0 e0 hf)
  have HB3 := hide hB3
  clear hr hB3 h0 r0 e0 R0
  subst hW3
  go_enter Tryz.func50, Tryz.ntmps50
  go_wp2_with fail
  refine (unhide HF).mono ?_
  rintro e w1 ⟨⟨fid, lb, Inv, rfl, htl, hi0⟩, hb1⟩
  have HTL := hide htl
  have HI0 := hide hi0
  have HB1 := hide ((unhide HB3).trans (hb1.mono (by simp; omega)))
  clear htl hb1 hi0
  go_wp2_with fail
  go_ret
  exact ⟨⟨_, _, _, rfl, (unhide HTL).low (by simp; omega), unhide HI0⟩, unhide HB1⟩

set_option maxHeartbeats 800000 in
theorem teller_12 (n : Int) (l : List Ev) (ad qa : Option Addr) (cap qn qc ga ca g0 c0 : Nat) (w : World) (hr : Cl.RE w ad l) (s0 : List Bool) (h0 : w.cell? ⟨ga, 0, none⟩ = some (.slice (some ⟨g0, 0, none⟩) l.length c0)) (r0 : Qk.Row w g0 s0) (e0 : s0.length = l.length) (hf : l.length ≤ 4000) :
    Calls Tryz.prog 50 #[.agg #[.int .i64 12, .int .i64 n, .slice qa qn qc], .slice ad l.length cap, .slice (some ⟨ga, 0, none⟩) 1 ca] w fun e w' => Qk.Teller e w.heap.size w' l.length (fun t => Qk.allTo s0 (t + 1)) ∧ Below w.heap.size w w' := by
  obtain ⟨W3, hW3⟩ : ∃ W3, W3 = ((w.alloc (.cells #[.int .i64 12, .int .i64 n, .slice qa qn qc] 24)).alloc (.cells #[.slice ad l.length cap] 37)).alloc (.cells #[.slice (some ⟨ga, 0, none⟩) 1 ca] 60) := ⟨_, rfl⟩
  have hB3 : Below w.heap.size w W3 := by rw [hW3]; exact Qk.W3.below _ _ _ _
  have q0 := (hB3.cell (p := ⟨ga, 0, none⟩) (World.block_lt_of_cell? w _ h0)).trans h0
  have R0 := r0.kept (hB3.block g0 r0.lt)
  have HF := hide (mk_all s0 g0 c0 l.length W3 R0 e0 hf)
  have HB3 := hide hB3
  clear hr hB3 h0 r0 e0 R0
  subst hW3
  go_enter Tryz.func50, Tryz.ntmps50
  go_wp2_with fail
  refine (unhide HF).mono ?_
  rintro e w1 ⟨⟨fid, lb, Inv, rfl, htl, hi0⟩, hb1⟩
  have HTL := hide htl
  have HI0 := hide hi0
  have HB1 := hide ((unhide HB3).trans (hb1.mono (by simp; omega)))
  clear htl hb1 hi0
  go_wp2_with fail
  go_ret
  exact ⟨⟨_, _, _, rfl, (unhide HTL).low (by simp; omega), unhide HI0⟩, unhide HB1⟩

set_option maxHeartbeats 800000 in
theorem teller_13 (n : Int) (l : List Ev) (ad qa : Option Addr) (cap qn qc ga ca g0 c0 g1 c1 : Nat) (w : World) (hr : Cl.RE w ad l) (s0 : List Bool) (h0 : w.cell? ⟨ga, 0, none⟩ = some (.slice (some ⟨g0, 0, none⟩) l.length c0)) (r0 : Qk.Row w g0 s0) (e0 : s0.length = l.length) (s1 : List Bool) (h1 : w.cell? ⟨ga, 1, none⟩ = some (.slice (some ⟨g1, 0, none⟩) l.length c1)) (r1 : Qk.Row w g1 s1) (e1 : s1.length = l.length) (hf : l.length ≤ 4000) :
    Calls Tryz.prog 50 #[.agg #[.int .i64 13, .int .i64 n, .slice qa qn qc], .slice ad l.length cap, .slice (some ⟨ga, 0, none⟩) 2 ca] w fun e w' => Qk.Teller e w.heap.size w' l.length (fun t => Qk.sinceTo s0 s1 (t + 1)) ∧ Below w.heap.size w w' := by
  obtain ⟨W3, hW3⟩ : ∃ W3, W3 = ((w.alloc (.cells #[.int .i64 13, .int .i64 n, .slice qa qn qc] 24)).alloc (.cells #[.slice ad l.length cap] 37)).alloc (.cells #[.slice (some ⟨ga, 0, none⟩) 2 ca] 60) := ⟨_, rfl⟩
  have hB3 : Below w.heap.size w W3 := by rw [hW3]; exact Qk.W3.below _ _ _ _
  have q0 := (hB3.cell (p := ⟨ga, 0, none⟩) (World.block_lt_of_cell? w _ h0)).trans h0
  have R0 := r0.kept (hB3.block g0 r0.lt)
  have q1 := (hB3.cell (p := ⟨ga, 1, none⟩) (World.block_lt_of_cell? w _ h1)).trans h1
  have R1 := r1.kept (hB3.block g1 r1.lt)
  have HF := hide (mk_since s0 s1 g0 c0 g1 c1 l.length W3.drew (R0.kept rfl) e0 (R1.kept rfl) e1 hf)
  have HB3 := hide hB3.drew
  clear hr hB3 h0 r0 e0 R0 h1 r1 e1 R1
  subst hW3
  go_enter Tryz.func50, Tryz.ntmps50
  go_wp2_with fail
  go_region_with (go_at_call 73; refine (unhide HF).mono ?_; rintro e w1 ⟨⟨fid, lb, Inv, rfl, htl, hi0⟩, hb1⟩; have HTL := hide htl; have HI0 := hide hi0; have HB1 := hide ((unhide HB3).trans (hb1.mono (by simp; omega))); clear htl hb1 hi0)
  all_goals
    go_wp2_with fail
    go_ret
    exact ⟨⟨_, _, _, rfl, (unhide HTL).low (by simp; omega), unhide HI0⟩, unhide HB1⟩

set_option maxHeartbeats 800000 in
theorem teller_14 (n : Int) (l : List Ev) (ad qa : Option Addr) (cap qn qc ga ca g0 c0 : Nat) (w : World) (hr : Cl.RE w ad l) (s0 : List Bool) (h0 : w.cell? ⟨ga, 0, none⟩ = some (.slice (some ⟨g0, 0, none⟩) l.length c0)) (r0 : Qk.Row w g0 s0) (e0 : s0.length = l.length) (hf : l.length ≤ 4000) :
    Calls Tryz.prog 50 #[.agg #[.int .i64 14, .int .i64 n, .slice qa qn qc], .slice ad l.length cap, .slice (some ⟨ga, 0, none⟩) 1 ca] w fun e w' => Qk.Teller e w.heap.size w' l.length (fun t => Qk.soonAt s0 n t) ∧ Below w.heap.size w w' := by
  obtain ⟨W3, hW3⟩ : ∃ W3, W3 = ((w.alloc (.cells #[.int .i64 14, .int .i64 n, .slice qa qn qc] 24)).alloc (.cells #[.slice ad l.length cap] 37)).alloc (.cells #[.slice (some ⟨ga, 0, none⟩) 1 ca] 60) := ⟨_, rfl⟩
  have hB3 : Below w.heap.size w W3 := by rw [hW3]; exact Qk.W3.below _ _ _ _
  have q0 := (hB3.cell (p := ⟨ga, 0, none⟩) (World.block_lt_of_cell? w _ h0)).trans h0
  have R0 := r0.kept (hB3.block g0 r0.lt)
  have HF := hide (mk_soon s0 n g0 c0 l.length W3.drew (R0.kept rfl) e0 hf)
  have HB3 := hide hB3.drew
  clear hr hB3 h0 r0 e0 R0
  subst hW3
  go_enter Tryz.func50, Tryz.ntmps50
  go_wp2_with fail
  go_region_with (go_at_call 74; refine (unhide HF).mono ?_; rintro e w1 ⟨⟨fid, lb, Inv, rfl, htl, hi0⟩, hb1⟩; have HTL := hide htl; have HI0 := hide hi0; have HB1 := hide ((unhide HB3).trans (hb1.mono (by simp; omega))); clear htl hb1 hi0)
  all_goals
    go_wp2_with fail
    go_ret
    exact ⟨⟨_, _, _, rfl, (unhide HTL).low (by simp; omega), unhide HI0⟩, unhide HB1⟩

end Go.Proofs.YtfhlnelgnnkeoaaGreatDoor
