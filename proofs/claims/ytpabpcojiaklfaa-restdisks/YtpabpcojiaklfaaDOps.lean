/-
  Contracts of Flush, Crash and Read of package disk. By the verifier.
-/
import Derived.Test.YtpabpcojiaklfaaDKept
namespace Go.Proofs.Ytpabpcojiaklfaa
open Go.RowKit
set_option linter.unusedVariables false

theorem Dk.all32 {ks : List ByteArray} (h : ks.all Dk.is32 = true) : ∀ s ∈ ks, s.size = 32 := by
  intro s hs
  have := List.all_eq_true.1 h s hs
  simpa [Dk.is32] using this

theorem Dk.keptTo_32 (p : Nat → Bool) {ks : List ByteArray} {ws : List (Int × ByteArray)} (hok : Dk.chk ks ws = 0) (k : Nat) : ∀ s ∈ Dk.keptTo p ks ws k, s.size = 32 := by
  obtain ⟨_, _, h3, _, h5⟩ := Dk.chk_ok hok
  induction k with
  | zero => exact Dk.all32 h3
  | succ k ih =>
    intro s hs
    cases hx : ws[k]? with
    | none =>
      have e : Dk.keptTo p ks ws (k + 1) = Dk.keptTo p ks ws k := by
        show (match ws[k]? with | some x => _ | none => _) = _
        rw [hx]
      rw [e] at hs; exact ih s hs
    | some x =>
      rw [Dk.keptTo_step p ks ws k x hx] at hs
      split at hs
      · rcases List.mem_or_eq_of_mem_set hs with h | h
        · exact ih s h
        · subst h; exact (Dk.chkWs_mem _ _ h5 x (List.mem_of_getElem? hx)).2.2
      · exact ih s hs

theorem Dk.keptTo_max (p : Nat → Bool) {ks : List ByteArray} {ws : List (Int × ByteArray)} (hok : Dk.chk ks ws = 0) (k : Nat) : ∀ s ∈ Dk.keptTo p ks ws k, s.size ≤ maxLen := by
  intro s hs
  have := Dk.keptTo_32 p hok k s hs
  unfold maxLen; omega

theorem Dk.ne0 {n : Nat} (h : n ≠ 0) : ((n : Int) == 0) = false := by rw [beq_eq_false_iff_ne]; omega

/-- Sectors are as they were, where a struct below is stored. -/
theorem Dk.Own.stored {w : World} {base g : Nat} {l : List ByteArray} (h : Dk.Own w base g l) {b : Nat} (hb : b < g) (o : Nat) (u v : Value) : Dk.Own ((w.setCell ⟨b, o, none⟩ u).setCell ⟨b, o + 1, none⟩ v) base g l := by
  refine ⟨h.base_le, by simpa [World.setCell] using h.lt, fun i s hi => ?_, fun i => by rw [World.frozen?_setCell, World.frozen?_setCell]; exact h.fr i⟩
  rw [World.cell?_setCell_other _ _ _ _ (by intro hh; have := congrArg Addr.block hh; simp at this; omega), World.cell?_setCell_other _ _ _ _ (by intro hh; have := congrArg Addr.block hh; simp at this; omega)]
  exact h.at_ i s hi
theorem Dk.Own.lower {w : World} {base base' g : Nat} {l : List ByteArray} (h : Dk.Own w base g l) (hb : base' ≤ base) : Dk.Own w base' g l := ⟨by have := h.base_le; omega, h.lt, h.at_, h.fr⟩
theorem Dk.RK.stored {w : World} {g : Nat} {l : List ByteArray} (h : Dk.RK w (some ⟨g, 0, none⟩) l) {b : Nat} (hb : b < g) (o : Nat) (u v : Value) : Dk.RK ((w.setCell ⟨b, o, none⟩ u).setCell ⟨b, o + 1, none⟩ v) (some ⟨g, 0, none⟩) l := by
  refine ⟨fun i s hi => ?_⟩
  obtain ⟨bb, oo, h1, h2, h3, h4⟩ := h.at_ i s hi
  cases h1
  refine ⟨g, 0, rfl, by simpa using h2, ?_, h4⟩
  rw [World.cell?_setCell_other _ _ _ _ (by intro hh; have := congrArg Addr.block hh; simp at this; omega), World.cell?_setCell_other _ _ _ _ (by intro hh; have := congrArg Addr.block hh; simp at this; omega)]
  exact h3

set_option maxHeartbeats 800000 in
theorem Flush_err (ka : Option Addr) (ks : List ByteArray) (kc : Nat) (wa : Option Addr) (ws : List (Int × ByteArray)) (wc : Nat) (w : World) (hk : Dk.RK w ka ks) (hw : Dk.RW w wa ws) (hne : Dk.chk ks ws ≠ 0) :
    Calls Try.prog 26 #[.agg #[.slice ka ks.length kc, .slice wa ws.length wc]] w fun e w' => e = .returned (.tuple #[.agg #[.slice none 0 0, .slice none 0 0], .int .i64 (Dk.chk ks ws : Nat)]) ∧ Below w.heap.size w w' := by
  have HK := hide hk
  have HW := hide hw
  have h0 := Dk.ne0 hne
  clear hk hw hne
  go_enter Try.func26, Try.ntmps26
  go_wp2_with fail
  have hb0 := (((Below.refl w.heap.size w).alloc (Nat.le_refl _) (Obj.cells #[.slice ka ks.length kc, .slice wa ws.length wc] 29)).alloc (by simp only [World.size_alloc]; omega) (Obj.cells #[.slice none 0 0, .slice none 0 0] 29))
  refine (Check_any ka ks kc wa ws wc _ ((unhide HK).later hb0 (Nat.le_refl _)) ((unhide HW).later hb0 (Nat.le_refl _))).mono ?_
  rintro e w1 ⟨rfl, hb⟩
  obtain ⟨hc, hf⟩ := bcell hb
  have hz := hb.size
  simp at hz
  have HB := hide (hb0.trans (hb.mono (by simp; omega)))
  have c10 : w1.cell? ⟨w.heap.size + 1, 0, none⟩ = some (.slice none 0 0) := (hc (w.heap.size + 1) 0 (by simp only [World.size_alloc]; omega)).trans (by go_simp)
  have f10 : w1.frozen? ⟨w.heap.size + 1, 0, none⟩ = false := (hf (w.heap.size + 1) 0 (by simp only [World.size_alloc]; omega)).trans (by go_simp)
  have c11 : w1.cell? ⟨w.heap.size + 1, 1, none⟩ = some (.slice none 0 0) := (hc (w.heap.size + 1) 1 (by simp only [World.size_alloc]; omega)).trans (by go_simp)
  have f11 : w1.frozen? ⟨w.heap.size + 1, 1, none⟩ = false := (hf (w.heap.size + 1) 1 (by simp only [World.size_alloc]; omega)).trans (by go_simp)
  clear hb hb0 hc hf
  go_wp2_with fail
  exact bodyPost_ret (v := .tuple #[.agg #[.slice none 0 0, .slice none 0 0], .int .i64 (Dk.chk ks ws : Nat)]) (by simp [results, Try.results26, go_sem, c10, c11]) rfl ⟨rfl, ((unhide HB).setCell (by simp; try omega) _).setCell (by simp; try omega) _⟩

set_option maxHeartbeats 800000 in
theorem Flush_wr (ka : Option Addr) (ks : List ByteArray) (kc : Nat) (wa : Option Addr) (ws : List (Int × ByteArray)) (wc : Nat) (w : World) (hk : Dk.RK w ka ks) (hw : Dk.RW w wa ws) (hok : Dk.chk ks ws = 0) :
    Calls Try.prog 26 #[.agg #[.slice ka ks.length kc, .slice wa ws.length wc]] w fun e w' => ∃ g cap', e = .returned (.tuple #[.agg #[.slice (some ⟨g, 0, none⟩) ks.length cap', .slice none 0 0], .int .i64 0]) ∧ Dk.RK w' (some ⟨g, 0, none⟩) (Dk.keptTo (fun _ => true) ks ws ws.length) ∧ Below w.heap.size w w' ∧ w.heap.size ≤ g ∧ ks.length ≤ cap' ∧ Dk.Own w' w.heap.size g (Dk.keptTo (fun _ => true) ks ws ws.length) := by
  have HK := hide hk
  have HW := hide hw
  have HOK := hide hok
  skip
  clear hk hw hok
  go_enter Try.func26, Try.ntmps26
  go_wp2_with fail
  have hb0 := (((Below.refl w.heap.size w).alloc (Nat.le_refl _) (Obj.cells #[.slice ka ks.length kc, .slice wa ws.length wc] 29)).alloc (by simp only [World.size_alloc]; omega) (Obj.cells #[.slice none 0 0, .slice none 0 0] 29))
  refine (Check_any ka ks kc wa ws wc _ ((unhide HK).later hb0 (Nat.le_refl _)) ((unhide HW).later hb0 (Nat.le_refl _))).mono ?_
  rintro e w1 ⟨rfl, hb⟩
  rw [unhide HOK]
  obtain ⟨hc, hf⟩ := bcell hb
  have hz := hb.size
  simp at hz
  have HB := hide (hb0.trans (hb.mono (by simp; omega)))
  clear hb hb0
  go_wp2_with fail
  refine (kept_all ka ks kc wa ws wc w1 ((unhide HK).later (unhide HB) (Nat.le_refl _)) ((unhide HW).later (unhide HB) (Nat.le_refl _)) (unhide HOK)).mono ?_
  rintro e w2 ⟨g, cap', rfl, how, hb2, hkc⟩
  obtain ⟨hc2, hf2⟩ := bcell hb2
  have hz2 := hb2.size
  have hrk := how.reads (Dk.keptTo_max _ (unhide HOK) _)
  have HB2 := hide ((unhide HB).trans (hb2.mono (by omega)))
  have hgl := how.base_le
  have c20 : w2.cell? ⟨w.heap.size + 1, 0, none⟩ = some (.slice none 0 0) := (hc2 (w.heap.size + 1) 0 (by omega)).trans ((hc (w.heap.size + 1) 0 (by simp only [World.size_alloc]; omega)).trans (by go_simp))
  have f20 : w2.frozen? ⟨w.heap.size + 1, 0, none⟩ = false := (hf2 (w.heap.size + 1) 0 (by omega)).trans ((hf (w.heap.size + 1) 0 (by simp only [World.size_alloc]; omega)).trans (by go_simp))
  have c21 : w2.cell? ⟨w.heap.size + 1, 1, none⟩ = some (.slice none 0 0) := (hc2 (w.heap.size + 1) 1 (by omega)).trans ((hc (w.heap.size + 1) 1 (by simp only [World.size_alloc]; omega)).trans (by go_simp))
  have f21 : w2.frozen? ⟨w.heap.size + 1, 1, none⟩ = false := (hf2 (w.heap.size + 1) 1 (by omega)).trans ((hf (w.heap.size + 1) 1 (by simp only [World.size_alloc]; omega)).trans (by go_simp))
  have HOW := hide how
  clear hb2 how hc2 hf2 hc hf
  have HRK := hide hrk
  clear hrk
  go_wp2_with fail
  refine bodyPost_ret (v := .tuple #[.agg #[.slice (some ⟨g, 0, none⟩) ks.length cap', .slice none 0 0], .int .i64 0]) (by simp [results, Try.results26, go_sem, c20, c21]) rfl ⟨g, cap', rfl, ?_, ((unhide HB2).setCell (by simp; try omega) _).setCell (by simp; try omega) _, by omega, hkc, ?_⟩
  · exact Dk.RK.stored (unhide HRK) (by omega) _ _ _
  · exact Dk.Own.lower (Dk.Own.stored (unhide HOW) (by omega) _ _ _) (by omega)
theorem Flush_own (ka : Option Addr) (ks : List ByteArray) (kc : Nat) (wa : Option Addr) (ws : List (Int × ByteArray)) (wc : Nat) (w : World) (hk : Dk.RK w ka ks) (hw : Dk.RW w wa ws) (hok : Dk.chk ks ws = 0) :
    Calls Try.prog 26 #[.agg #[.slice ka ks.length kc, .slice wa ws.length wc]] w fun e w' => ∃ g cap', e = .returned (.tuple #[.agg #[.slice (some ⟨g, 0, none⟩) ks.length cap', .slice none 0 0], .int .i64 0]) ∧ Dk.RK w' (some ⟨g, 0, none⟩) (Dk.keptTo (fun _ => true) ks ws ws.length) ∧ Below w.heap.size w w' ∧ w.heap.size ≤ g ∧ ks.length ≤ cap' :=
  (Flush_wr ka ks kc wa ws wc w hk hw hok).mono fun e w' ⟨g, c, h1, h2, h3, h4, h5, _⟩ => ⟨g, c, h1, h2, h3, h4, h5⟩
theorem Flush_ok (ka : Option Addr) (ks : List ByteArray) (kc : Nat) (wa : Option Addr) (ws : List (Int × ByteArray)) (wc : Nat) (w : World) (hk : Dk.RK w ka ks) (hw : Dk.RW w wa ws) (hok : Dk.chk ks ws = 0) :
    Calls Try.prog 26 #[.agg #[.slice ka ks.length kc, .slice wa ws.length wc]] w fun e w' => ∃ g cap', e = .returned (.tuple #[.agg #[.slice (some ⟨g, 0, none⟩) ks.length cap', .slice none 0 0], .int .i64 0]) ∧ Dk.RK w' (some ⟨g, 0, none⟩) (Dk.keptTo (fun _ => true) ks ws ws.length) ∧ Below w.heap.size w w' :=
  (Flush_own ka ks kc wa ws wc w hk hw hok).mono fun e w' ⟨g, c, h1, h2, h3, _⟩ => ⟨g, c, h1, h2, h3⟩

set_option maxHeartbeats 800000 in
theorem Crash_err (ka : Option Addr) (ks : List ByteArray) (kc : Nat) (wa : Option Addr) (ws : List (Int × ByteArray)) (wc : Nat) (l : List Bool) (ad : Option Addr) (cap : Nat) (w : World) (hk : Dk.RK w ka ks) (hw : Dk.RW w wa ws) (hne : Dk.chk ks ws ≠ 0) :
    Calls Try.prog 15 #[.agg #[.slice ka ks.length kc, .slice wa ws.length wc], .slice ad l.length cap] w fun e w' => e = .returned (.tuple #[.agg #[.slice none 0 0, .slice none 0 0], .int .i64 (Dk.chk ks ws : Nat)]) ∧ Below w.heap.size w w' := by
  have HK := hide hk
  have HW := hide hw
  have h0 := Dk.ne0 hne
  clear hk hw hne
  go_enter Try.func15, Try.ntmps15
  go_wp2_with fail
  have hb0 := ((((Below.refl w.heap.size w).alloc (Nat.le_refl _) (Obj.cells #[.slice ka ks.length kc, .slice wa ws.length wc] 29)).alloc (by simp only [World.size_alloc]; omega) (Obj.cells #[.slice ad l.length cap] 24)).alloc (by simp only [World.size_alloc]; omega) (Obj.cells #[.slice none 0 0, .slice none 0 0] 29))
  refine (Check_any ka ks kc wa ws wc _ ((unhide HK).later hb0 (Nat.le_refl _)) ((unhide HW).later hb0 (Nat.le_refl _))).mono ?_
  rintro e w1 ⟨rfl, hb⟩
  obtain ⟨hc, hf⟩ := bcell hb
  have hz := hb.size
  simp at hz
  have HB := hide (hb0.trans (hb.mono (by simp; omega)))
  have c10 : w1.cell? ⟨w.heap.size + 1 + 1, 0, none⟩ = some (.slice none 0 0) := (hc (w.heap.size + 1 + 1) 0 (by simp only [World.size_alloc]; omega)).trans (by go_simp)
  have f10 : w1.frozen? ⟨w.heap.size + 1 + 1, 0, none⟩ = false := (hf (w.heap.size + 1 + 1) 0 (by simp only [World.size_alloc]; omega)).trans (by go_simp)
  have c11 : w1.cell? ⟨w.heap.size + 1 + 1, 1, none⟩ = some (.slice none 0 0) := (hc (w.heap.size + 1 + 1) 1 (by simp only [World.size_alloc]; omega)).trans (by go_simp)
  have f11 : w1.frozen? ⟨w.heap.size + 1 + 1, 1, none⟩ = false := (hf (w.heap.size + 1 + 1) 1 (by simp only [World.size_alloc]; omega)).trans (by go_simp)
  clear hb hb0 hc hf
  go_wp2_with fail
  exact bodyPost_ret (v := .tuple #[.agg #[.slice none 0 0, .slice none 0 0], .int .i64 (Dk.chk ks ws : Nat)]) (by simp [results, Try.results15, go_sem, c10, c11]) rfl ⟨rfl, ((unhide HB).setCell (by simp; try omega) _).setCell (by simp; try omega) _⟩

set_option maxHeartbeats 800000 in
theorem Crash_wr (ka : Option Addr) (ks : List ByteArray) (kc : Nat) (wa : Option Addr) (ws : List (Int × ByteArray)) (wc : Nat) (l : List Bool) (ad : Option Addr) (cap : Nat) (w : World) (hk : Dk.RK w ka ks) (hw : Dk.RW w wa ws) (hl : Dk.RB w ad l) (hok : Dk.chk ks ws = 0) :
    Calls Try.prog 15 #[.agg #[.slice ka ks.length kc, .slice wa ws.length wc], .slice ad l.length cap] w fun e w' => ∃ g cap', e = .returned (.tuple #[.agg #[.slice (some ⟨g, 0, none⟩) ks.length cap', .slice none 0 0], .int .i64 0]) ∧ Dk.RK w' (some ⟨g, 0, none⟩) (Dk.keptTo (fun i => (l[i]?).getD false) ks ws ws.length) ∧ Below w.heap.size w w' ∧ w.heap.size ≤ g ∧ ks.length ≤ cap' ∧ Dk.Own w' w.heap.size g (Dk.keptTo (fun i => (l[i]?).getD false) ks ws ws.length) := by
  have HK := hide hk
  have HW := hide hw
  have HOK := hide hok
  have HL := hide hl
  clear hl
  clear hk hw hok
  go_enter Try.func15, Try.ntmps15
  go_wp2_with fail
  have hb0 := ((((Below.refl w.heap.size w).alloc (Nat.le_refl _) (Obj.cells #[.slice ka ks.length kc, .slice wa ws.length wc] 29)).alloc (by simp only [World.size_alloc]; omega) (Obj.cells #[.slice ad l.length cap] 24)).alloc (by simp only [World.size_alloc]; omega) (Obj.cells #[.slice none 0 0, .slice none 0 0] 29))
  refine (Check_any ka ks kc wa ws wc _ ((unhide HK).later hb0 (Nat.le_refl _)) ((unhide HW).later hb0 (Nat.le_refl _))).mono ?_
  rintro e w1 ⟨rfl, hb⟩
  rw [unhide HOK]
  obtain ⟨hc, hf⟩ := bcell hb
  have hz := hb.size
  simp at hz
  have HB := hide (hb0.trans (hb.mono (by simp; omega)))
  clear hb hb0
  go_wp2_with fail
  refine (kept_some ka ks kc wa ws wc l ad cap (w.heap.size + 1) w1 ((unhide HK).later (unhide HB) (Nat.le_refl _)) ((unhide HW).later (unhide HB) (Nat.le_refl _)) (unhide HOK) ((unhide HL).later (unhide HB) (Nat.le_refl _)) (by omega) ((hc (w.heap.size + 1) 0 (by simp only [World.size_alloc]; omega)).trans (by go_simp))).mono ?_
  rintro e w2 ⟨g, cap', rfl, how, hb2, hkc⟩
  obtain ⟨hc2, hf2⟩ := bcell hb2
  have hz2 := hb2.size
  have hrk := how.reads (Dk.keptTo_max _ (unhide HOK) _)
  have HB2 := hide ((unhide HB).trans (hb2.mono (by omega)))
  have hgl := how.base_le
  have c20 : w2.cell? ⟨w.heap.size + 1 + 1, 0, none⟩ = some (.slice none 0 0) := (hc2 (w.heap.size + 1 + 1) 0 (by omega)).trans ((hc (w.heap.size + 1 + 1) 0 (by simp only [World.size_alloc]; omega)).trans (by go_simp))
  have f20 : w2.frozen? ⟨w.heap.size + 1 + 1, 0, none⟩ = false := (hf2 (w.heap.size + 1 + 1) 0 (by omega)).trans ((hf (w.heap.size + 1 + 1) 0 (by simp only [World.size_alloc]; omega)).trans (by go_simp))
  have c21 : w2.cell? ⟨w.heap.size + 1 + 1, 1, none⟩ = some (.slice none 0 0) := (hc2 (w.heap.size + 1 + 1) 1 (by omega)).trans ((hc (w.heap.size + 1 + 1) 1 (by simp only [World.size_alloc]; omega)).trans (by go_simp))
  have f21 : w2.frozen? ⟨w.heap.size + 1 + 1, 1, none⟩ = false := (hf2 (w.heap.size + 1 + 1) 1 (by omega)).trans ((hf (w.heap.size + 1 + 1) 1 (by simp only [World.size_alloc]; omega)).trans (by go_simp))
  have HOW := hide how
  clear hb2 how hc2 hf2 hc hf
  have HRK := hide hrk
  clear hrk
  go_wp2_with fail
  refine bodyPost_ret (v := .tuple #[.agg #[.slice (some ⟨g, 0, none⟩) ks.length cap', .slice none 0 0], .int .i64 0]) (by simp [results, Try.results15, go_sem, c20, c21]) rfl ⟨g, cap', rfl, ?_, ((unhide HB2).setCell (by simp; try omega) _).setCell (by simp; try omega) _, by omega, hkc, ?_⟩
  · exact Dk.RK.stored (unhide HRK) (by omega) _ _ _
  · exact Dk.Own.lower (Dk.Own.stored (unhide HOW) (by omega) _ _ _) (by omega)
theorem Crash_own (ka : Option Addr) (ks : List ByteArray) (kc : Nat) (wa : Option Addr) (ws : List (Int × ByteArray)) (wc : Nat) (l : List Bool) (ad : Option Addr) (cap : Nat) (w : World) (hk : Dk.RK w ka ks) (hw : Dk.RW w wa ws) (hl : Dk.RB w ad l) (hok : Dk.chk ks ws = 0) :
    Calls Try.prog 15 #[.agg #[.slice ka ks.length kc, .slice wa ws.length wc], .slice ad l.length cap] w fun e w' => ∃ g cap', e = .returned (.tuple #[.agg #[.slice (some ⟨g, 0, none⟩) ks.length cap', .slice none 0 0], .int .i64 0]) ∧ Dk.RK w' (some ⟨g, 0, none⟩) (Dk.keptTo (fun i => (l[i]?).getD false) ks ws ws.length) ∧ Below w.heap.size w w' ∧ w.heap.size ≤ g ∧ ks.length ≤ cap' :=
  (Crash_wr ka ks kc wa ws wc l ad cap w hk hw hl hok).mono fun e w' ⟨g, c, h1, h2, h3, h4, h5, _⟩ => ⟨g, c, h1, h2, h3, h4, h5⟩
theorem Crash_ok (ka : Option Addr) (ks : List ByteArray) (kc : Nat) (wa : Option Addr) (ws : List (Int × ByteArray)) (wc : Nat) (l : List Bool) (ad : Option Addr) (cap : Nat) (w : World) (hk : Dk.RK w ka ks) (hw : Dk.RW w wa ws) (hl : Dk.RB w ad l) (hok : Dk.chk ks ws = 0) :
    Calls Try.prog 15 #[.agg #[.slice ka ks.length kc, .slice wa ws.length wc], .slice ad l.length cap] w fun e w' => ∃ g cap', e = .returned (.tuple #[.agg #[.slice (some ⟨g, 0, none⟩) ks.length cap', .slice none 0 0], .int .i64 0]) ∧ Dk.RK w' (some ⟨g, 0, none⟩) (Dk.keptTo (fun i => (l[i]?).getD false) ks ws ws.length) ∧ Below w.heap.size w w' :=
  (Crash_own ka ks kc wa ws wc l ad cap w hk hw hl hok).mono fun e w' ⟨g, c, h1, h2, h3, _⟩ => ⟨g, c, h1, h2, h3⟩
end Go.Proofs.Ytpabpcojiaklfaa
