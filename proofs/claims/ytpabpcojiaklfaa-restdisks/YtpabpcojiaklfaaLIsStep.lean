/-
  The contract of the document's own IsStep, where one disk is a Write, or a Flush, further. By the verifier.
-/
import Derived.Test.YtpabpcojiaklfaaLPure
import Derived.Test.YtpabpcojiaklfaaDWriteOf
namespace Go.Proofs.Ytpabpcojiaklfaa
open Go.RowKit
set_option linter.unusedVariables false

set_option maxHeartbeats 400000 in
theorem SameDisk_no (ka kb wa wb : Option Addr) (n m p kc kd wc wd : Nat) (w : World) (hn : n ≤ 600) (hm : m ≤ 601) (hp : p ≤ 601) (h : m ≠ p) :
    Calls Try.prog 27 #[.agg #[.slice ka n kc, .slice wa m wc], .agg #[.slice kb n kd, .slice wb p wd]] w fun e w' => e = .returned (.bool false) ∧ Below w.heap.size w w' := by
  have g1 : ((n : Int) != (n : Int)) = false := by simp
  have g2 : ((m : Int) != (p : Int)) = true := by simp; omega
  go_enter Try.func27, Try.ntmps27
  go_wp2_with fail
  go_ret
  exact ⟨rfl, ((Below.refl _ _).alloc (Nat.le_refl _) _).alloc (by simp) _⟩

/-- Two disks in boxes, and the world behind another. -/
abbrev Lg.SS (b b' : Nat) (A0 A1 B0 B1 : Value) (w0 W : World) : Prop := W.cell? ⟨b, 0, none⟩ = some A0 ∧ W.cell? ⟨b, 1, none⟩ = some A1 ∧ W.cell? ⟨b', 0, none⟩ = some B0 ∧ W.cell? ⟨b', 1, none⟩ = some B1 ∧ Below w0.heap.size w0 W
section
variable {b b' : Nat} {A0 A1 B0 B1 : Value} {w0 W W' : World}
theorem Lg.SS.below (h : Lg.SS b b' A0 A1 B0 B1 w0 W) (hb : Below W.heap.size W W') : Lg.SS b b' A0 A1 B0 B1 w0 W' := by
  obtain ⟨h1, h2, h3, h4, h5⟩ := h
  refine ⟨?_, ?_, ?_, ?_, h5.trans (hb.mono h5.size)⟩
  · rw [hb.cell (World.block_lt_of_cell? W _ h1)]; exact h1
  · rw [hb.cell (World.block_lt_of_cell? W _ h2)]; exact h2
  · rw [hb.cell (World.block_lt_of_cell? W _ h3)]; exact h3
  · rw [hb.cell (World.block_lt_of_cell? W _ h4)]; exact h4
theorem Lg.SS.drew (h : Lg.SS b b' A0 A1 B0 B1 w0 W) : Lg.SS b b' A0 A1 B0 B1 w0 W.drew := ⟨h.1, h.2.1, h.2.2.1, h.2.2.2.1, h.2.2.2.2.drew⟩
theorem Lg.SS.bel (h : Lg.SS b b' A0 A1 B0 B1 w0 W) : Below w0.heap.size w0 W := h.2.2.2.2
end

set_option maxRecDepth 100000 in
set_option maxHeartbeats 1600000 in
theorem IsStep_flush (ka : Option Addr) (ks : List ByteArray) (kc : Nat) (wa : Option Addr) (ws : List (Int × ByteArray)) (wc : Nat) (kb : Option Addr) (kd : Nat) (wb : Option Addr) (wd : Nat) (w : World)
    (hk : Dk.RK w ka ks) (hw : Dk.RW w wa ws) (hok : Dk.chk ks ws = 0) (hk2 : Dk.RK w kb (Dk.keptTo (fun _ => true) ks ws ws.length)) :
    Calls Try.prog 43 #[.agg #[.slice ka ks.length kc, .slice wa ws.length wc], .agg #[.slice kb ks.length kd, .slice wb 0 wd]] w fun e w' => e = .returned (.bool true) ∧ Below w.heap.size w w' := by
  obtain ⟨h1, h2, h3, h4, h5⟩ := Dk.chk_ok hok
  have hb0 := ((Below.refl w.heap.size w).alloc (Nat.le_refl _) (Obj.cells #[.slice ka ks.length kc, .slice wa ws.length wc] 29)).alloc (by simp only [World.size_alloc]; omega) (Obj.cells #[.slice kb ks.length kd, .slice wb 0 wd] 29)
  have HS := hide (show Lg.SS w.heap.size (w.heap.size + 1) (.slice ka ks.length kc) (.slice wa ws.length wc) (.slice kb ks.length kd) (.slice wb 0 wd) ((w.alloc (Obj.cells #[.slice ka ks.length kc, .slice wa ws.length wc] 29)).alloc (Obj.cells #[.slice kb ks.length kd, .slice wb 0 wd] 29)) ((w.alloc (Obj.cells #[.slice ka ks.length kc, .slice wa ws.length wc] 29)).alloc (Obj.cells #[.slice kb ks.length kd, .slice wb 0 wd] 29)) from ⟨by go_simp, by go_simp, by go_simp, by go_simp, Below.refl _ _⟩)
  have HK := hide (hk.later hb0 (Nat.le_refl _))
  have HW := hide (hw.later hb0 (Nat.le_refl _))
  have HK2 := hide (hk2.later hb0 (Nat.le_refl _))
  have HOK := hide hok
  have hKl := Dk.keptTo_length (fun _ => true) ks ws ws.length
  have HB0 := hide hb0
  clear hk hw hk2 hok h3 h5 hb0
  generalize hKS : Dk.keptTo (fun _ => true) ks ws ws.length = KS at *
  have HKS := hide hKS
  have HKL := hide hKl
  clear hKS hKl
  go_enter Try.func43, Try.ntmps43
  go_wp2_with fail
  generalize (w.alloc (Obj.cells #[.slice ka ks.length kc, .slice wa ws.length wc] 29)).alloc (Obj.cells #[.slice kb ks.length kd, .slice wb 0 wd] 29) = w0 at *
  go_region_held3 (fun W => W.cell? ⟨w.heap.size, 0, none⟩ = some (.slice ka ks.length kc) ∧ W.cell? ⟨w.heap.size, 1, none⟩ = some (.slice wa ws.length wc) ∧ W.cell? ⟨w.heap.size + 1, 0, none⟩ = some (.slice kb ks.length kd) ∧ W.cell? ⟨w.heap.size + 1, 1, none⟩ = some (.slice wb 0 wd) ∧ Below w0.heap.size w0 W)
    (first
      | exact Lg.SS.below (by assumption) (unhide HBX)
      | exact Lg.SS.drew (unhide HS))
    (first
      | (go_at_call 74; refine (CrashOf_all ka ks kc wa ws wc [] none 0 _ ?_ ?_ ⟨fun i s h => by simp at h⟩ (unhide HOK)).mono ?_; exact (unhide HK).later (Lg.SS.bel (by assumption)) (Nat.le_refl _); exact (unhide HW).later (Lg.SS.bel (by assumption)) (Nat.le_refl _); rw [unhide HKS]; rintro e w5 ⟨g, c, rfl, hr5, hb5⟩; have HBX := hide hb5; have HKG := hide hr5; clear hb5 hr5)
      | (go_at_call 27; rw [← unhide HKL]; refine (SameDisk_eq kb (some ⟨g, 0, none⟩) KS kd c wb none [] wd 0 _ ?_ ?_ (Dk.RW.nil _ _) (Dk.RW.nil _ _) (by rw [unhide HKL]; omega) (by simp)).mono ?_; exact (unhide HK2).later (Lg.SS.bel (by assumption)) (Nat.le_refl _); (first | exact unhide HKG | exact (unhide HKG).later (Below.refl _ _).drew (Nat.le_refl _)); rintro e w6 ⟨rfl, hb6⟩; have HBX := hide hb6; clear hb6))
  all_goals
    go_wp2_with fail
    go_ret
    exact ⟨rfl, (unhide HB0).trans ((Lg.SS.bel (by assumption)).mono (unhide HB0).size)⟩

/-- Two disks in boxes, the last one written, and the world behind another. -/
abbrev Lg.SX (b b' g o : Nat) (A0 A1 B0 B1 C0 C1 : Value) (w0 W : World) : Prop := W.cell? ⟨b, 0, none⟩ = some A0 ∧ W.cell? ⟨b, 1, none⟩ = some A1 ∧ W.cell? ⟨b', 0, none⟩ = some B0 ∧ W.cell? ⟨b', 1, none⟩ = some B1 ∧ W.cell? ⟨g, o, none⟩ = some C0 ∧ W.cell? ⟨g, o + 1, none⟩ = some C1 ∧ Below w0.heap.size w0 W
section
variable {b b' g o : Nat} {A0 A1 B0 B1 C0 C1 : Value} {w0 W W' : World}
theorem Lg.SX.below (h : Lg.SX b b' g o A0 A1 B0 B1 C0 C1 w0 W) (hb : Below W.heap.size W W') : Lg.SX b b' g o A0 A1 B0 B1 C0 C1 w0 W' := by
  obtain ⟨h1, h2, h3, h4, h6, h7, h5⟩ := h
  refine ⟨?_, ?_, ?_, ?_, ?_, ?_, h5.trans (hb.mono h5.size)⟩
  · rw [hb.cell (World.block_lt_of_cell? W _ h1)]; exact h1
  · rw [hb.cell (World.block_lt_of_cell? W _ h2)]; exact h2
  · rw [hb.cell (World.block_lt_of_cell? W _ h3)]; exact h3
  · rw [hb.cell (World.block_lt_of_cell? W _ h4)]; exact h4
  · rw [hb.cell (World.block_lt_of_cell? W _ h6)]; exact h6
  · rw [hb.cell (World.block_lt_of_cell? W _ h7)]; exact h7
theorem Lg.SX.drew (h : Lg.SX b b' g o A0 A1 B0 B1 C0 C1 w0 W) : Lg.SX b b' g o A0 A1 B0 B1 C0 C1 w0 W.drew := ⟨h.1, h.2.1, h.2.2.1, h.2.2.2.1, h.2.2.2.2.1, h.2.2.2.2.2.1, h.2.2.2.2.2.2.drew⟩
theorem Lg.SX.bel (h : Lg.SX b b' g o A0 A1 B0 B1 C0 C1 w0 W) : Below w0.heap.size w0 W := h.2.2.2.2.2.2
end

theorem WriteOf_any (ka : Option Addr) (ks : List ByteArray) (kc : Nat) (wa : Option Addr) (ws : List (Int × ByteArray)) (wc : Nat) (n : Int) (s : ByteArray) (w : World) (hw : Dk.RW w wa ws) (h4 : ws.length ≤ 600) (hws : ∀ y ∈ ws, y.2.size ≤ maxLen) (hsm : s.size ≤ maxLen) :
    Calls Try.prog 75 #[.agg #[.slice ka ks.length kc, .slice wa ws.length wc], .int .i64 n, .string s] w fun e w' => ∃ g2 c2, e = .returned (.agg #[.slice ka ks.length kc, .slice (some ⟨g2, 0, none⟩) (ws.length + 1) c2]) ∧ Dk.RW w' (some ⟨g2, 0, none⟩) (ws ++ [(n, s)]) ∧ Below w.heap.size w w' := by
  cases ws with
  | nil =>
    cases wa with
    | none => exact WriteOf_none ka ks kc wc n s w hsm
    | some a => exact WriteOf_some ka ks kc a wc n s w hsm
  | cons y r =>
    obtain ⟨b, o, rfl, _⟩ := hw.at_ 0 y rfl
    exact WriteOf_cons ka ks kc b o (y :: r) wc n s w hw (by simp) h4 hws hsm

set_option maxRecDepth 100000 in
set_option maxHeartbeats 3200000 in
theorem IsStep_write (ka : Option Addr) (ks : List ByteArray) (kc : Nat) (wa : Option Addr) (ws : List (Int × ByteArray)) (wc : Nat) (kb : Option Addr) (kd : Nat) (wb : Option Addr) (wd : Nat) (i : Int) (s : ByteArray) (w : World)
    (hk : Dk.RK w ka ks) (hw : Dk.RW w wa ws) (hok : Dk.chk ks ws = 0) (hk2 : Dk.RK w kb ks) (hw2 : Dk.RW w wb (ws ++ [(i, s)])) (hi0 : 0 ≤ i) (hi1 : i < (ks.length : Int)) (hs : s.size = 32) (hn : ws.length < 600) :
    Calls Try.prog 43 #[.agg #[.slice ka ks.length kc, .slice wa ws.length wc], .agg #[.slice kb ks.length kd, .slice wb (ws.length + 1) wd]] w fun e w' => e = .returned (.bool true) ∧ Below w.heap.size w w' := by
  obtain ⟨h1, h2, h3, h4, h5⟩ := Dk.chk_ok hok
  have HW5 := hide (show ∀ y ∈ ws, y.2.size ≤ maxLen from fun y hy => by have := (Dk.chkWs_mem _ _ h5 y hy).2.2; rw [this]; unfold maxLen; omega)
  obtain ⟨gb, ob, rfl, hgb, d0, d1, _⟩ := hw2.at_ ws.length (i, s) (by rw [List.getElem?_append_right (Nat.le_refl _), Nat.sub_self]; rfl)
  have hb0 := ((Below.refl w.heap.size w).alloc (Nat.le_refl _) (Obj.cells #[.slice ka ks.length kc, .slice wa ws.length wc] 29)).alloc (by simp only [World.size_alloc]; omega) (Obj.cells #[.slice kb ks.length kd, .slice (some ⟨gb, ob, none⟩) (ws.length + 1) wd] 29)
  have HS := hide (show Lg.SX w.heap.size (w.heap.size + 1) gb (ob + ws.length * 2) (.slice ka ks.length kc) (.slice wa ws.length wc) (.slice kb ks.length kd) (.slice (some ⟨gb, ob, none⟩) (ws.length + 1) wd) (.int .i64 i) (.string s) ((w.alloc (Obj.cells #[.slice ka ks.length kc, .slice wa ws.length wc] 29)).alloc (Obj.cells #[.slice kb ks.length kd, .slice (some ⟨gb, ob, none⟩) (ws.length + 1) wd] 29)) ((w.alloc (Obj.cells #[.slice ka ks.length kc, .slice wa ws.length wc] 29)).alloc (Obj.cells #[.slice kb ks.length kd, .slice (some ⟨gb, ob, none⟩) (ws.length + 1) wd] 29)) from
    ⟨by go_simp, by go_simp, by go_simp, by go_simp, (hb0.cell (p := ⟨gb, ob + ws.length * 2, none⟩) hgb).trans d0, (hb0.cell (p := ⟨gb, ob + ws.length * 2 + 1, none⟩) hgb).trans d1, Below.refl _ _⟩)
  have HK := hide (hk.later hb0 (Nat.le_refl _))
  have HW := hide (hw.later hb0 (Nat.le_refl _))
  have HK2 := hide (hk2.later hb0 (Nat.le_refl _))
  have HW2 := hide (hw2.later hb0 (Nat.le_refl _))
  have HOK := hide hok
  have HSM := hide (show s.size ≤ maxLen by rw [hs]; unfold maxLen; omega)
  have HB0 := hide hb0
  have HBT := hide (fun (W : World) => (show Calls Try.prog 37 #[.int .i64 i, .int .i64 0, .int .i64 ((ks.length : Int) - 1)] W fun e w' => e = .returned (.bool true) ∧ w' = W by
    have := between_any i 0 ((ks.length : Int) - 1) W
    rw [show decide (0 ≤ i ∧ i ≤ (ks.length : Int) - 1) = true by simp; omega] at this
    exact this))
  have HSD := hide (fun (W : World) (g8 c8 : Nat) (r1 : Dk.RK W kb ks) (r2 : Dk.RK W ka ks) (r3 : Dk.RW W (some ⟨gb, ob, none⟩) (ws ++ [(i, s)])) (r4 : Dk.RW W (some ⟨g8, 0, none⟩) (ws ++ [(i, s)])) => (show Calls Try.prog 27 #[.agg #[.slice kb ks.length kd, .slice (some ⟨gb, ob, none⟩) (ws.length + 1) wd], .agg #[.slice ka ks.length kc, .slice (some ⟨g8, 0, none⟩) (ws.length + 1) c8]] W fun e w' => e = .returned (.bool true) ∧ Below W.heap.size W w' by
    have := SameDisk_eq kb ka ks kd kc (some ⟨gb, ob, none⟩) (some ⟨g8, 0, none⟩) (ws ++ [(i, s)]) wd c8 W r1 r2 r3 r4 h2 (by rw [List.length_append]; exact hn)
    rw [List.length_append] at this
    exact this))
  have gs : ((s.size : Int) != 32) = false := by simp; omega
  have gl : ((ws.length : Int) + 1 != (ws.length : Int) + 1) = false := by simp
  clear hk hw hk2 hw2 hok h3 h5 hb0 d0 d1 hs hi0 hi1
  go_enter Try.func43, Try.ntmps43
  go_wp2_with fail
  generalize (w.alloc (Obj.cells #[.slice ka ks.length kc, .slice wa ws.length wc] 29)).alloc (Obj.cells #[.slice kb ks.length kd, .slice (some ⟨gb, ob, none⟩) (ws.length + 1) wd] 29) = w0 at *
  go_region_held3 (fun W => W.cell? ⟨w.heap.size, 0, none⟩ = some (.slice ka ks.length kc) ∧ W.cell? ⟨w.heap.size, 1, none⟩ = some (.slice wa ws.length wc) ∧ W.cell? ⟨w.heap.size + 1, 0, none⟩ = some (.slice kb ks.length kd) ∧ W.cell? ⟨w.heap.size + 1, 1, none⟩ = some (.slice (some ⟨gb, ob, none⟩) (ws.length + 1) wd) ∧ W.cell? ⟨gb, ob + ws.length * 2, none⟩ = some (.int .i64 i) ∧ W.cell? ⟨gb, ob + ws.length * 2 + 1, none⟩ = some (.string s) ∧ Below w0.heap.size w0 W)
    (first
      | exact Lg.SX.below (by assumption) (unhide HBX)
      | exact Lg.SX.drew (unhide HS))
    (first
      | (go_at_call 74; refine (CrashOf_all ka ks kc wa ws wc [] none 0 _ ?_ ?_ ⟨fun i s h => by simp at h⟩ (unhide HOK)).mono ?_; exact (unhide HK).later (Lg.SX.bel (by assumption)) (Nat.le_refl _); exact (unhide HW).later (Lg.SX.bel (by assumption)) (Nat.le_refl _); rintro e w5 ⟨g, c, rfl, hr5, hb5⟩; have HBX := hide hb5; clear hb5 hr5)
      | (go_at_call 27; refine (SameDisk_no kb (some ⟨g, 0, none⟩) (some ⟨gb, ob, none⟩) none ks.length (ws.length + 1) 0 kd c wd 0 _ (by omega) (by omega) (by omega) (by omega)).mono ?_; rintro e w6 ⟨rfl, hb6⟩; have HBX := hide hb6; clear hb6))
  all_goals
    have hSX : Lg.SX w.heap.size (w.heap.size + 1) gb (ob + ws.length * 2) (.slice ka ks.length kc) (.slice wa ws.length wc) (.slice kb ks.length kd) (.slice (some ⟨gb, ob, none⟩) (ws.length + 1) wd) (.int .i64 i) (.string s) w0 w6 := by assumption
    have HSX := hide hSX
    obtain ⟨e0, e1, e2, e3, e4, e5, eb⟩ := hSX
    have hn1 : (0 : Int) ≤ (ws.length : Int) := by omega
    have hn2 : (ws.length : Int) < (ws.length : Int) + 1 := by omega
    go_wp2_with fail
    go_quiet ((go_at_call 37; exact Calls.quiet_of_same ((unhide HBT) _)))
    go_wp2_with fail
    have HS7 := hide (Lg.SX.below (unhide HSX) (below_drewN (Below.refl _ _) nq))
    have hn3 : ((ws.length : Nat) : Int) < ((ws.length + 1 : Nat) : Int) := by omega
    clear e0 e1 e2 e3 e4 e5 eb HSX HS
    generalize w6.drewN nq = w7 at *
    go_region_held3 (fun W => W.cell? ⟨w.heap.size, 0, none⟩ = some (.slice ka ks.length kc) ∧ W.cell? ⟨w.heap.size, 1, none⟩ = some (.slice wa ws.length wc) ∧ W.cell? ⟨w.heap.size + 1, 0, none⟩ = some (.slice kb ks.length kd) ∧ W.cell? ⟨w.heap.size + 1, 1, none⟩ = some (.slice (some ⟨gb, ob, none⟩) (ws.length + 1) wd) ∧ W.cell? ⟨gb, ob + ws.length * 2, none⟩ = some (.int .i64 i) ∧ W.cell? ⟨gb, ob + ws.length * 2 + 1, none⟩ = some (.string s) ∧ Below w0.heap.size w0 W)
      (first
        | exact Lg.SX.below (by assumption) (unhide HBY)
        | exact Lg.SX.drew (unhide HS7))
      (first
        | (go_at_call 75; refine (WriteOf_any ka ks kc wa ws wc i s _ ?_ (by omega) (unhide HW5) (unhide HSM)).mono ?_; exact (unhide HW).later (Lg.SX.bel (by assumption)) (Nat.le_refl _); rintro e w8 ⟨g8, c8, rfl, hr8, hb8⟩; have HBY := hide hb8; have HRW8 := hide hr8; clear hb8 hr8)
        | (go_at_call 27; refine ((unhide HSD) _ g8 c8 ?_ ?_ ?_ ?_).mono ?_; exact (unhide HK2).later (Lg.SX.bel (by assumption)) (Nat.le_refl _); exact (unhide HK).later (Lg.SX.bel (by assumption)) (Nat.le_refl _); exact (unhide HW2).later (Lg.SX.bel (by assumption)) (Nat.le_refl _); (first | exact unhide HRW8 | exact (unhide HRW8).later (Below.refl _ _).drew (Nat.le_refl _)); rintro e w9 ⟨rfl, hb9⟩; have HBY := hide hb9; clear hb9))
    all_goals
      go_wp2_with fail
      go_ret
      exact ⟨rfl, (unhide HB0).trans ((Lg.SX.bel (by assumption)).mono (unhide HB0).size)⟩

/-- A disk, as it is read. -/
structure Lg.DR (W : World) (A0 A1 : Value) (d : List ByteArray × List (Int × ByteArray)) : Prop where
  lies : ∃ ka kc wa wc, A0 = .slice ka d.1.length kc ∧ A1 = .slice wa d.2.length wc ∧ Dk.RK W ka d.1 ∧ Dk.RW W wa d.2 ∧ d.1.length ≤ kc
theorem Lg.DR.later {W W' : World} {A0 A1 : Value} {d : List ByteArray × List (Int × ByteArray)} (h : Lg.DR W A0 A1 d) {B : Nat} (hb : Below B W W') (hB : W.heap.size ≤ B) : Lg.DR W' A0 A1 d := by
  obtain ⟨ka, kc, wa, wc, h1, h2, h3, h4, h5⟩ := h.lies
  exact ⟨ka, kc, wa, wc, h1, h2, h3.later hb hB, h4.later hb hB, h5⟩
/-- A way, as it is read. -/
structure Lg.RD (W : World) (ad : Option Addr) (ds : List (List ByteArray × List (Int × ByteArray))) : Prop where
  at_ : ∀ i d, ds[i]? = some d → ∃ b o A0 A1, ad = some ⟨b, o, none⟩ ∧ b < W.heap.size ∧ W.cell? ⟨b, o + i * 2, none⟩ = some A0 ∧ W.cell? ⟨b, o + i * 2 + 1, none⟩ = some A1 ∧ Lg.DR W A0 A1 d
theorem Lg.RD.later {W W' : World} {ad : Option Addr} {ds : List (List ByteArray × List (Int × ByteArray))} (h : Lg.RD W ad ds) {B : Nat} (hb : Below B W W') (hB : W.heap.size ≤ B) : Lg.RD W' ad ds :=
  ⟨fun i d hi => by
    obtain ⟨b, o, A0, A1, h1, h2, h3, h4, h5⟩ := h.at_ i d hi
    have hc : ∀ j, W'.cell? ⟨b, j, none⟩ = W.cell? ⟨b, j, none⟩ := fun j => hb.cell (p := ⟨b, j, none⟩) (by show b < B; omega)
    exact ⟨b, o, A0, A1, h1, by have := hb.size; omega, by rw [hc]; exact h3, by rw [hc]; exact h4, h5.later hb hB⟩⟩
theorem Lg.RD.of {W : World} {B g n c bn bw : Nat} {v : Value} {cs : List Value} {ds : List (List ByteArray × List (Int × ByteArray))} (ho : W.ownsRow B 29 2 (.slice (some ⟨g, 0, none⟩) n c) n cs) (hy : Lg.Wy W bn bw v cs ds) : Lg.RD W (some ⟨g, 0, none⟩) ds :=
  ⟨fun i d hi => by
    obtain ⟨A0, A1, h1, h2, h3⟩ := hy.at_ i d hi
    obtain ⟨g', c', b', e', k1, k2, k3, k4, k5, _⟩ := h3.lies
    have c0 := ho.cells (g := g) rfl _ _ h1
    have c1 := ho.cells (g := g) rfl _ _ h2
    rw [Dk.add_at] at c0 c1
    refine ⟨g, 0, A0, A1, rfl, World.block_lt_of_cell? W _ c0, c0, ?_, ⟨_, _, _, _, k1, k2, k3, k4, k5⟩⟩
    rw [Nat.add_assoc]
    exact c1⟩

theorem IsStep_any (d d' : List ByteArray × List (Int × ByteArray)) (A0 A1 B0 B1 : Value) (w : World) (hs : Lg.Step d d') (h : Lg.DR w A0 A1 d) (h' : Lg.DR w B0 B1 d') :
    Calls Try.prog 43 #[.agg #[A0, A1], .agg #[B0, B1]] w fun e w' => e = .returned (.bool true) ∧ Below w.heap.size w w' := by
  obtain ⟨ka, kc, wa, wc, rfl, rfl, h3, h4, h5⟩ := h.lies
  obtain ⟨kb, kd, wb, wd, rfl, rfl, k3, k4, k5⟩ := h'.lies
  obtain ⟨hc, hs | ⟨i, s, hs, h6, h7, h8, h9⟩⟩ := hs
  · subst hs
    rw [Dk.keptTo_length]
    exact IsStep_flush ka d.1 kc wa d.2 wc kb kd wb wd w h3 h4 hc k3
  · subst hs
    rw [List.length_append]
    exact IsStep_write ka d.1 kc wa d.2 wc kb kd wb wd i s w h3 h4 hc k3 k4 h6 h7 h8 h9

/-- A box, a disk of the way, and the world behind another. -/
abbrev Lg.SW (b g o : Nat) (A0 A1 B0 B1 : Value) (w0 W : World) : Prop := W.cell? ⟨b, 0, none⟩ = some A0 ∧ W.cell? ⟨b, 1, none⟩ = some A1 ∧ W.cell? ⟨g, o, none⟩ = some B0 ∧ W.cell? ⟨g, o + 1, none⟩ = some B1 ∧ Below w0.heap.size w0 W
section
variable {b g o : Nat} {A0 A1 B0 B1 : Value} {w0 W W' : World}
theorem Lg.SW.below (h : Lg.SW b g o A0 A1 B0 B1 w0 W) (hb : Below W.heap.size W W') : Lg.SW b g o A0 A1 B0 B1 w0 W' := by
  obtain ⟨h1, h2, h3, h4, h5⟩ := h
  refine ⟨?_, ?_, ?_, ?_, h5.trans (hb.mono h5.size)⟩
  · rw [hb.cell (World.block_lt_of_cell? W _ h1)]; exact h1
  · rw [hb.cell (World.block_lt_of_cell? W _ h2)]; exact h2
  · rw [hb.cell (World.block_lt_of_cell? W _ h3)]; exact h3
  · rw [hb.cell (World.block_lt_of_cell? W _ h4)]; exact h4
theorem Lg.SW.drew (h : Lg.SW b g o A0 A1 B0 B1 w0 W) : Lg.SW b g o A0 A1 B0 B1 w0 W.drew := ⟨h.1, h.2.1, h.2.2.1, h.2.2.2.1, h.2.2.2.2.drew⟩
theorem Lg.SW.bel (h : Lg.SW b g o A0 A1 B0 B1 w0 W) : Below w0.heap.size w0 W := h.2.2.2.2
end

/-- A variable of two cells that may be stored. -/
structure Lg.Vr (b : Nat) (A0 A1 : Value) (W : World) : Prop where
  c0 : W.cell? ⟨b, 0, none⟩ = some A0
  c1 : W.cell? ⟨b, 1, none⟩ = some A1
  f0 : W.frozen? ⟨b, 0, none⟩ = false
  f1 : W.frozen? ⟨b, 1, none⟩ = false
theorem Lg.Vr.lt {b : Nat} {A0 A1 : Value} {W : World} (h : Lg.Vr b A0 A1 W) : b < W.heap.size := World.block_lt_of_cell? W _ h.c0
theorem Lg.Vr.below {b : Nat} {A0 A1 : Value} {W W' : World} (h : Lg.Vr b A0 A1 W) (hb : Below W.heap.size W W') : Lg.Vr b A0 A1 W' :=
  ⟨(hb.cell (p := ⟨b, 0, none⟩) h.lt).trans h.c0, (hb.cell (p := ⟨b, 1, none⟩) h.lt).trans h.c1, (hb.frozen (p := ⟨b, 0, none⟩) h.lt).trans h.f0, (hb.frozen (p := ⟨b, 1, none⟩) h.lt).trans h.f1⟩
theorem Lg.Vr.made (W : World) (A0 A1 : Value) (t : TypeId) : Lg.Vr W.heap.size A0 A1 (W.alloc (.cells #[A0, A1] t)) := ⟨by go_simp, by go_simp, by go_simp, by go_simp⟩
theorem Lg.Vr.alloc {b : Nat} {A0 A1 : Value} {W : World} (h : Lg.Vr b A0 A1 W) (o : Obj) : Lg.Vr b A0 A1 (W.alloc o) := h.below ((Below.refl _ _).alloc (Nat.le_refl _) o)
theorem Lg.Vr.stored {b : Nat} {A0 A1 : Value} {W : World} (h : Lg.Vr b A0 A1 W) (u v : Value) : Lg.Vr b u v ((W.setCell ⟨b, 0, none⟩ u).setCell ⟨b, 1, none⟩ v) := by
  refine ⟨?_, ?_, ?_, ?_⟩
  · rw [World.cell?_setCell_other _ _ _ _ (by intro hh; have := congrArg Addr.off hh; simp at this)]
    exact World.cell?_setCell_same _ _ _ h.c0
  · exact World.cell?_setCell_same _ _ _ (u := A1) (by rw [World.cell?_setCell_other _ _ _ _ (by intro hh; have := congrArg Addr.off hh; simp at this)]; exact h.c1)
  · simpa using h.f0
  · simpa using h.f1
theorem Lg.Vr.other {b b' : Nat} {A0 A1 : Value} {W : World} (h : Lg.Vr b A0 A1 W) (hne : b' ≠ b) (u v : Value) : Lg.Vr b A0 A1 ((W.setCell ⟨b', 0, none⟩ u).setCell ⟨b', 1, none⟩ v) := by
  have n : ∀ i j : Nat, (⟨b', i, none⟩ : Addr) ≠ ⟨b, j, none⟩ := fun i j hh => hne (congrArg Addr.block hh)
  refine ⟨?_, ?_, ?_, ?_⟩
  · rw [World.cell?_setCell_other _ _ _ _ (n _ _), World.cell?_setCell_other _ _ _ _ (n _ _)]; exact h.c0
  · rw [World.cell?_setCell_other _ _ _ _ (n _ _), World.cell?_setCell_other _ _ _ _ (n _ _)]; exact h.c1
  · simpa using h.f0
  · simpa using h.f1

set_option maxRecDepth 100000 in
set_option maxHeartbeats 1600000 in
theorem wayIs_any (ka : Option Addr) (ks : List ByteArray) (kc : Nat) (U : Value) (ds : List (List ByteArray × List (Int × ByteArray))) (ad : Option Addr) (cap : Nat) (xs : List ByteArray) (X0 : Value) (xa : Option Addr) (xc : Nat) (w : World)
    (hk : Lg.DR w (.slice ka ks.length kc) (.slice none 0 0) (ks, [])) (hr : Lg.RD w ad ds) (hx : Lg.DR w X0 (.slice xa 0 xc) (xs, [])) (hx6 : xs.length ≤ 600) (hpos : 0 < ds.length) (hl : ds.length ≤ 600)
    (hstep : ∀ (j : Nat) d d', ((ks, []) :: ds)[j]? = some d → ds[j]? = some d' → Lg.Step d d') (hlast : ((ks, []) :: ds)[ds.length]? = some (xs, [])) :
    Calls Try.prog 14 #[.agg #[.slice ka ks.length kc, U], .slice ad ds.length cap, .agg #[X0, .slice xa 0 xc]] w fun e w' => e = .returned (.bool true) ∧ Below w.heap.size w w' := by
  have HK := hide hk
  have HR := hide hr
  have HX := hide hx
  have HST := hide hstep
  have HLA := hide hlast
  clear hk hr hx hstep hlast
  go_enter Try.func14, Try.ntmps14
  go_wp2_with fail
  have HV0 := hide (show Lg.Vr (w.heap.size + 1) X0 (.slice xa 0 xc) (((w.alloc (Obj.cells #[.slice ka ks.length kc, U] 29)).alloc (Obj.cells #[X0, .slice xa 0 xc] 29)).alloc (Obj.cells #[.slice ka ks.length kc, .slice none 0 0] 29)) ∧ Lg.Vr (w.heap.size + 1 + 1) (.slice ka ks.length kc) (.slice none 0 0) (((w.alloc (Obj.cells #[.slice ka ks.length kc, U] 29)).alloc (Obj.cells #[X0, .slice xa 0 xc] 29)).alloc (Obj.cells #[.slice ka ks.length kc, .slice none 0 0] 29)) ∧ Below w.heap.size w (((w.alloc (Obj.cells #[.slice ka ks.length kc, U] 29)).alloc (Obj.cells #[X0, .slice xa 0 xc] 29)).alloc (Obj.cells #[.slice ka ks.length kc, .slice none 0 0] 29)) from
    ⟨⟨by go_simp, by go_simp, by go_simp, by go_simp⟩, ⟨by go_simp, by go_simp, by go_simp, by go_simp⟩, (((Below.refl w.heap.size w).alloc (Nat.le_refl _) _).alloc (by simp) _).alloc (by simp; omega) _⟩)
  generalize ((w.alloc (Obj.cells #[.slice ka ks.length kc, U] 29)).alloc (Obj.cells #[X0, .slice xa 0 xc] 29)).alloc (Obj.cells #[.slice ka ks.length kc, .slice none 0 0] 29) = w0 at *
  go_loopw [8] (fun v wr => ∃ (k : Nat) (A0 A1 : Value) (d : List ByteArray × List (Int × ByteArray)), k ≤ ds.length ∧ v = .int .i64 k ∧ ((ks, []) :: ds)[k]? = some d ∧ Lg.DR w A0 A1 d ∧ Lg.Vr (w.heap.size + 1) X0 (.slice xa 0 xc) wr ∧ Lg.Vr (w.heap.size + 1 + 1) A0 A1 wr ∧ Below w.heap.size w wr) (fun v _ => ds.length - (intOf v).toNat)
  case atStart => exact ⟨0, _, _, _, Nat.zero_le _, rfl, rfl, unhide HK, (unhide HV0).1, (unhide HV0).2.1, (unhide HV0).2.2⟩
  case round =>
    obtain ⟨k, A0, A1, d, hk, rfl, hd, hdr, hvx, hvw, hbe⟩ := hrel
    have HD := hide hd
    have HDR := hide hdr
    have HVX := hide hvx
    have HVW := hide hvw
    have HBE := hide hbe
    clear hd hdr hvx hvw hbe
    by_cases hlt : k < ds.length
    · obtain ⟨d', hd'⟩ : ∃ t, ds[k]? = some t := ⟨ds[k], List.getElem?_eq_getElem hlt⟩
      obtain ⟨gb, ob, B0, B1, rfl, hgb, c0, c1, hdr'⟩ := (unhide HR).at_ k d' hd'
      obtain ⟨qa, qc, qb, qd, hB0, hB1⟩ : ∃ qa qc qb qd, B0 = .slice qa d'.1.length qc ∧ B1 = .slice qb d'.2.length qd := by
        obtain ⟨qa, qc, qb, qd, q1, q2, _⟩ := hdr'.lies
        exact ⟨qa, qc, qb, qd, q1, q2⟩
      generalize d'.1.length = m0 at hB0
      generalize d'.2.length = m1 at hB1
      subst hB0 hB1
      have HD' := hide hd'
      have HDR' := hide hdr'
      have HS := hide (show Lg.SW (w.heap.size + 1 + 1) gb (ob + k * 2) A0 A1 (.slice qa m0 qc) (.slice qb m1 qd) wr wr from ⟨(unhide HVW).c0, (unhide HVW).c1, ((unhide HBE).cell (p := ⟨gb, ob + k * 2, none⟩) hgb).trans c0, ((unhide HBE).cell (p := ⟨gb, ob + k * 2 + 1, none⟩) hgb).trans c1, Below.refl _ _⟩)
      have HIS := hide (fun (W : World) (hb : Below w.heap.size w W) => IsStep_any d d' A0 A1 (.slice qa m0 qc) (.slice qb m1 qd) W ((unhide HST) k d d' (unhide HD) hd') ((unhide HDR).later hb (Nat.le_refl _)) (hdr'.later hb (Nat.le_refl _)))
      clear hd' hdr' c0 c1
      have hk1 : (0 : Int) ≤ (k : Int) := by omega
      have hk2 : (k : Int) < (ds.length : Int) := by omega
      go_wp2_with fail
      go_region_held3 (fun W => W.cell? ⟨w.heap.size + 1 + 1, 0, none⟩ = some A0 ∧ W.cell? ⟨w.heap.size + 1 + 1, 1, none⟩ = some A1 ∧ W.cell? ⟨gb, ob + k * 2, none⟩ = some (.slice qa m0 qc) ∧ W.cell? ⟨gb, ob + k * 2 + 1, none⟩ = some (.slice qb m1 qd) ∧ Below wr.heap.size wr W)
        (first
          | exact Lg.SW.below (by assumption) (unhide HBX)
          | exact Lg.SW.drew (unhide HS))
        (first
          | (go_at_call 43; refine ((unhide HIS) _ ?_).mono ?_; exact (unhide HBE).trans ((Lg.SW.bel (by assumption)).mono (unhide HBE).size); rintro e w5 ⟨rfl, hb5⟩; have HBX := hide hb5; clear hb5))
      all_goals
        have hSW : Lg.SW (w.heap.size + 1 + 1) gb (ob + k * 2) A0 A1 (.slice qa m0 qc) (.slice qb m1 qd) wr w5 := by assumption
        obtain ⟨e0, e1, e2, e3, eb⟩ := hSW
        have HVW5 := hide ((unhide HVW).below eb)
        have HVX5 := hide ((unhide HVX).below eb)
        have HBE5 := hide ((unhide HBE).trans (eb.mono (unhide HBE).size))
        have f0 := (unhide HVW5).f0
        have f1 := (unhide HVW5).f1
        clear eb HBX HS
        go_wp2_with fail
        refine ⟨⟨k + 1, _, _, d', by omega, by go_num, unhide HD', unhide HDR', (unhide HVX5).other (by omega) _ _, (unhide HVW5).stored _ _, ((unhide HBE5).setCell (by simp; omega) _).setCell (by simp; omega) _⟩, by simp [intOf]; omega⟩
    · have hk2 : ¬ (k : Int) < (ds.length : Int) := by omega
      obtain rfl : k = ds.length := by omega
      obtain rfl : d = (xs, []) := by
        have := unhide HD
        rw [unhide HLA] at this
        cases this
        rfl
      obtain ⟨qa, qc, qb, qd, rfl, rfl, q1, q2, _⟩ := (unhide HDR).lies
      obtain ⟨ra, rc, rb, rd, rfl, hrb, r1, r2, _⟩ := (unhide HX).lies
      have hxb : xa = rb ∧ xc = rd := by
        cases hrb
        exact ⟨rfl, rfl⟩
      have HQ := hide q1
      have HRX := hide r1
      have c0 := (unhide HVW).c0
      have c1 := (unhide HVW).c1
      have d0 := (unhide HVX).c0
      have d1 := (unhide HVX).c1
      have hp : (0 : Int) < (ds.length : Int) := by omega
      clear q1 r1 q2 r2 hxb hrb
      simp only [List.length_nil] at c1 c0 d0
      go_wp2_with fail
      refine (SameDisk_eq qa ra xs qc rc qb xa [] qd xc _ ((unhide HQ).later (unhide HBE) (Nat.le_refl _)) ((unhide HRX).later (unhide HBE) (Nat.le_refl _)) (Dk.RW.nil _ _) (Dk.RW.nil _ _) hx6 (by simp)).mono ?_
      rintro e w6 ⟨rfl, hb6⟩
      have HB6 := hide ((unhide HBE).trans (hb6.mono (unhide HBE).size))
      clear hb6
      go_wp2_with fail
      go_ret
      exact ⟨rfl, unhide HB6⟩
end Go.Proofs.Ytpabpcojiaklfaa
