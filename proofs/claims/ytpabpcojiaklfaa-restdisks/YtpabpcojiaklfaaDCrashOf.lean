/-
  Contracts of the document's own CrashOf. By the verifier.
-/
import Derived.Test.YtpabpcojiaklfaaDRead
import Derived.Deep.RegionHeld3
import Derived.Deep.AppendLies
namespace Go.Proofs.Ytpabpcojiaklfaa
open Go.RowKit
set_option linter.unusedVariables false

/-- What holds at the head of CrashOf's loop. -/
structure Dk.CI (w w1 : World) (A0 A1 : Value) (g n cap : Nat) (l : List ByteArray) (wr : World) : Prop where
  below : Below w.heap.size w wr
  size : wr.heap.size = w1.heap.size + 1
  own : Dk.Own wr (w.heap.size + 1 + 1) g l
  d0 : wr.cell? ⟨w.heap.size, 0, none⟩ = some A0
  d1 : wr.cell? ⟨w.heap.size, 1, none⟩ = some A1
  r0 : wr.cell? ⟨w.heap.size + 1, 0, none⟩ = some (.slice none 0 0)
  r1 : wr.cell? ⟨w.heap.size + 1, 1, none⟩ = some (.slice none 0 0)
  f0 : wr.frozen? ⟨w.heap.size + 1, 0, none⟩ = false
  f1 : wr.frozen? ⟨w.heap.size + 1, 1, none⟩ = false
  o0 : wr.cell? ⟨w1.heap.size, 0, none⟩ = some (.slice (some ⟨g, 0, none⟩) n cap)
  o1 : wr.cell? ⟨w1.heap.size, 1, none⟩ = some (.slice none 0 0)

theorem Dk.CI.drew {w w1 : World} {A0 A1 : Value} {g n cap : Nat} {l : List ByteArray} {wr : World} (h : Dk.CI w w1 A0 A1 g n cap l wr) : Dk.CI w w1 A0 A1 g n cap l wr.drew :=
  ⟨h.below.drew, h.size, ⟨h.own.base_le, h.own.lt, h.own.at_, h.own.fr⟩, h.d0, h.d1, h.r0, h.r1, h.f0, h.f1, h.o0, h.o1⟩

theorem Dk.CI.set {w w1 : World} {A0 A1 : Value} {g n cap : Nat} {l : List ByteArray} {wr : World} (h : Dk.CI w w1 A0 A1 g n cap l wr) (hg : g < w1.heap.size) (i : Nat) (s : ByteArray) : Dk.CI w w1 A0 A1 g n cap (l.set i s) (wr.setCell ⟨g, i, none⟩ (.string s)) := by
  have hb := h.own.base_le
  have e : ∀ b j, b ≠ g → (wr.setCell ⟨g, i, none⟩ (.string s)).cell? ⟨b, j, none⟩ = wr.cell? ⟨b, j, none⟩ := fun b j hne => World.cell?_setCell_other _ _ _ _ (by intro hh; have := congrArg Addr.block hh; simp at this; omega)
  refine ⟨h.below.setCell (by show _ ≤ g; omega) _, by simpa using h.size, h.own.set i s, ?_, ?_, ?_, ?_, by rw [World.frozen?_setCell]; exact h.f0, by rw [World.frozen?_setCell]; exact h.f1, ?_, ?_⟩
  · rw [e _ _ (by omega)]; exact h.d0
  · rw [e _ _ (by omega)]; exact h.d1
  · rw [e _ _ (by omega)]; exact h.r0
  · rw [e _ _ (by omega)]; exact h.r1
  · rw [e _ _ (by omega)]; exact h.o0
  · rw [e _ _ (by omega)]; exact h.o1

theorem Dk.frozen_alloc {w : World} {a : Addr} {o : Obj} (h : w.frozen? a = false) (hb : a.block < w.heap.size) : (w.alloc o).frozen? a = false := by
  rw [← h]
  exact ((Below.refl w.heap.size w).alloc (Nat.le_refl _) o).frozen hb

set_option maxHeartbeats 1600000 in
theorem CrashOf_all (ka : Option Addr) (ks : List ByteArray) (kc : Nat) (wa : Option Addr) (ws : List (Int × ByteArray)) (wc : Nat) (l : List Bool) (ad : Option Addr) (cap : Nat) (w : World) (hk : Dk.RK w ka ks) (hw : Dk.RW w wa ws) (hl : Dk.RB w ad l) (hok : Dk.chk ks ws = 0) :
    Calls Try.prog 74 #[.agg #[.slice ka ks.length kc, .slice wa ws.length wc], .slice ad l.length cap, .bool true] w fun e w' => ∃ g cap', e = .returned (.agg #[.slice (some ⟨g, 0, none⟩) ks.length cap', .slice none 0 0]) ∧ Dk.RK w' (some ⟨g, 0, none⟩) (Dk.keptTo (fun _ => true) ks ws ws.length) ∧ Below w.heap.size w w' := by
  obtain ⟨h1, h2, h3, h4, h5⟩ := Dk.chk_ok hok
  obtain ⟨i0, hi, hz0, hz1, hz2⟩ := info_of Try.infoS
  obtain ⟨b0, o0, rfl, _⟩ := hk.at_ 0 _ (List.getElem?_eq_getElem (by omega : 0 < ks.length))
  have hb0 := ((Below.refl w.heap.size w).alloc (Nat.le_refl _) (Obj.cells #[.slice (some ⟨b0, o0, none⟩) ks.length kc, .slice wa ws.length wc] 29)).alloc (by simp only [World.size_alloc]; omega) (Obj.cells #[.slice none 0 0, .slice none 0 0] 29)
  have HNW := hide ((hk.later (hb0.alloc (by simp only [World.size_alloc]; omega) (Obj.cells #[] 9)) (Nat.le_refl _)).news)
  have how := World.ownsRow_made (base := w.heap.size + 1 + 1) (e := 9) (size := 1) ((w.alloc (Obj.cells #[.slice (some ⟨b0, o0, none⟩) ks.length kc, .slice wa ws.length wc] 29)).alloc (Obj.cells #[.slice none 0 0, .slice none 0 0] 29)) #[] 0 (by simp) (Nat.zero_le _) (by simp)
  rw [World.size_alloc, World.size_alloc] at how
  have HOW := hide how
  clear how
  have HW5 := hide (Dk.chkWs_mem _ _ h5)
  have HW := hide hw
  have HL := hide hl
  have HOK := hide hok
  have HI := hide hi
  have HZ0 := hide hz0
  have HZ1 := hide hz1
  have HZ2 := hide hz2
  have HB0 := hide (hb0.alloc (by simp only [World.size_alloc]; omega) (Obj.cells #[] 9))
  have hwl : (ws.length : Int) ≤ 600 := by omega
  clear hk hw hl hok h3 h5 hi hz0 hz1 hz2 hb0
  go_enter Try.func74, Try.ntmps74
  go_wp2_with (at_builtin; refine wpList_append_lies _ (by rfl) _ _ _ (by rfl) (w.heap.size + 1 + 1) 9 i0 _ 1 16 Try.underlying26 (unhide HI) (unhide HZ0) (unhide HZ1) (unhide HZ2) rfl (by omega) (.slice (some ⟨w.heap.size + 1 + 1, 0, none⟩) 0 0) 0 [] (by rfl) (unhide HOW) ⟨b0, o0, none⟩ ks.length kc (ks.map Value.string) (by rfl) (by simp) (unhide HNW) (Dk.one_s ks) (by omega) (by unfold maxLen; omega) (by omega) (by simp) (w.heap.size + 1 + 1 + 1) (by simp) ?_; intro g cap' w1 hown hgrow hat hlt1; have HO := hide hown; have HG := hide hgrow; have HAT := hide hat; clear hown hgrow hat)
  have hown := unhide HO
  rw [Nat.zero_add, List.nil_append] at hown
  have HO1 := hide (Dk.Own.of hown)
  have hg2 := (unhide HO1).base_le
  have hs1 := (unhide HG).size
  simp at hs1
  have far := fun (b j : Nat) (h1 : b < w.heap.size + 1 + 1) => (unhide HG).cell_far ⟨b, j, none⟩ (by simp; omega) (by simp [Value.ownBlock]; omega)
  have farf := fun (b j : Nat) (h1 : b < w.heap.size + 1 + 1) => (unhide HG).frozen_far ⟨b, j, none⟩ (by simp; omega) (by simp [Value.ownBlock]; omega)
  have d0 := (far w.heap.size 0 (by omega)).trans (show _ = some (.slice (some ⟨b0, o0, none⟩) ks.length kc) by go_simp)
  have d1 := (far w.heap.size 1 (by omega)).trans (show _ = some (.slice wa ws.length wc) by go_simp)
  have r0 := (far (w.heap.size + 1) 0 (by omega)).trans (show _ = some (.slice none 0 0) by go_simp)
  have r1 := (far (w.heap.size + 1) 1 (by omega)).trans (show _ = some (.slice none 0 0) by go_simp)
  have f0 := (farf (w.heap.size + 1) 0 (by omega)).trans (show _ = false by go_simp)
  have f1 := (farf (w.heap.size + 1) 1 (by omega)).trans (show _ = false by go_simp)
  have HBB := hide ((unhide HB0).grown (unhide HG) (by simp; omega) (by intro k hk; simp [Value.ownBlock] at hk; omega))
  clear far farf hown HO HG HAT
  have HCI := hide (show Dk.CI w w1 (.slice (some ⟨b0, o0, none⟩) ks.length kc) (.slice wa ws.length wc) g ks.length cap' ks (w1.alloc (.cells #[.slice (some ⟨g, 0, none⟩) ks.length cap', .slice none 0 0] 29)) from
    ⟨(unhide HBB).alloc (by omega) _, by simp, (unhide HO1).later ((Below.refl _ _).alloc (Nat.le_refl _) _), Dk.cell_alloc d0, Dk.cell_alloc d1, Dk.cell_alloc r0, Dk.cell_alloc r1, Dk.frozen_alloc f0 (show w.heap.size + 1 < _ by omega), Dk.frozen_alloc f1 (show w.heap.size + 1 < _ by omega), by go_simp, by go_simp⟩)
  clear d0 d1 r0 r1 f0 f1
  go_loopw [8] (fun v wr => ∃ k : Nat, k ≤ ws.length ∧ v = .int .i64 k ∧ Dk.CI w w1 (.slice (some ⟨b0, o0, none⟩) ks.length kc) (.slice wa ws.length wc) g ks.length cap' (Dk.keptTo (fun _ => true) ks ws k) wr) (fun v _ => ws.length - (intOf v).toNat)
  case atStart => exact ⟨0, by omega, rfl, unhide HCI⟩
  case round =>
    obtain ⟨k, hk, rfl, hci⟩ := hrel
    obtain ⟨hbe, hsz, how, d0, d1, r0, r1, f0, f1, oc0, oc1⟩ := hci
    have HCK := hide (Dk.CI.mk hbe hsz how d0 d1 r0 r1 f0 f1 oc0 oc1)
    have HBE := hide hbe
    clear hbe
    by_cases hlt : k < ws.length
    · obtain ⟨x, hx⟩ : ∃ x, ws[k]? = some x := ⟨ws[k], List.getElem?_eq_getElem hlt⟩
      obtain ⟨b, o, rfl, hb, e0, e1, hts⟩ := ((unhide HW).later (unhide HBE) (Nat.le_refl _)).at_ k x hx
      obtain ⟨b', o', hbo, hbw, _⟩ := (unhide HW).at_ k x hx
      cases hbo
      obtain ⟨hx0, hx1, hx2⟩ := (unhide HW5) x (List.mem_of_getElem? hx)
      have HST := hide (Dk.keptTo_step (fun _ => true) ks ws k x hx)
      have hlen := Dk.keptTo_length (fun _ => true) ks ws k
      obtain ⟨y, hy⟩ : ∃ y, (Dk.keptTo (fun _ => true) ks ws k)[x.1.toNat]? = some y := ⟨_, List.getElem?_eq_getElem (by omega)⟩
      have hcy := how.at_ _ _ hy
      have hfy := how.fr x.1.toNat
      clear hx hts hy hlen how
      have hk1 : (0 : Int) ≤ (k : Int) := by omega
      have hk2 : (k : Int) < (ws.length : Int) := by omega
      have hne1 : b ≠ g := by omega
      have hne2 : w.heap.size ≠ g := by omega
      have hne3 : w1.heap.size ≠ g := by omega
      have hne4 : w.heap.size + 1 ≠ g := by omega
      have ot : ∀ q j, q ≠ g → (wr.setCell ⟨g, x.1.toNat, none⟩ (.string x.2)).cell? ⟨q, j, none⟩ = wr.cell? ⟨q, j, none⟩ := fun q j hne => World.cell?_setCell_other _ _ _ _ (by intro hh; have := congrArg Addr.block hh; simp at this; omega)
      have k1 := hide ((ot w1.heap.size 0 (by omega)).trans oc0)
      have k2 := hide ((ot w.heap.size 1 (by omega)).trans d1)
      have k3 := hide ((ot b (o + k * 2) hne1).trans e0)
      have k4 := hide ((ot b (o + k * 2 + 1) hne1).trans e1)
      have k5 := hide (show ((wr.setCell ⟨g, x.1.toNat, none⟩ (.string x.2)).cell? ⟨g, x.1.toNat, none⟩).isSome = true by rw [World.cell?_setCell_same _ _ _ hcy]; rfl)
      have k6 := hide (show (wr.setCell ⟨g, x.1.toNat, none⟩ (.string x.2)).frozen? ⟨g, x.1.toNat, none⟩ = false by rw [World.frozen?_setCell]; exact hfy)
      clear ot
      have hst := unhide HST
      rw [if_pos rfl] at hst
      have HS2 := hide hst
      clear hst HST
      go_wp2_with fail
      go_region_held3 (fun w' => w'.cell? ⟨w1.heap.size, 0, none⟩ = some (.slice (some ⟨g, 0, none⟩) ks.length cap') ∧ w'.cell? ⟨w.heap.size, 1, none⟩ = some (.slice (some ⟨b, o, none⟩) ws.length wc) ∧ w'.cell? ⟨b, o + k * 2, none⟩ = some (.int .i64 x.1) ∧ w'.cell? ⟨b, o + k * 2 + 1, none⟩ = some (.string x.2) ∧ (w'.cell? ⟨g, x.1.toNat, none⟩).isSome = true ∧ w'.frozen? ⟨g, x.1.toNat, none⟩ = false) (first | exact ⟨unhide k1, unhide k2, unhide k3, unhide k4, unhide k5, unhide k6⟩ | (go_keep; done)) (fail)
      go_wp2_with fail
      refine ⟨⟨k + 1, by omega, by go_num, ?_⟩, by simp [intOf]; omega⟩
      rw [unhide HS2]
      exact ((unhide HCK).set (by omega) _ _).drew
    · have hkl : k = ws.length := by omega
      subst hkl
      have HRK := hide ((unhide HCK).own.reads (Dk.keptTo_max _ (unhide HOK) _))
      clear how
      go_wp2_with fail
      refine bodyPost_ret (v := .agg #[.slice (some ⟨g, 0, none⟩) ks.length cap', .slice none 0 0]) (by simp [results, Try.results74, go_sem, r0, r1]) rfl ⟨g, cap', rfl, ?_, ((unhide HBE).setCell (by simp; try omega) _).setCell (by simp; try omega) _⟩
      exact Dk.RK.stored (unhide HRK) (by omega) _ _ _

set_option maxHeartbeats 1600000 in
theorem CrashOf_some (ka : Option Addr) (ks : List ByteArray) (kc : Nat) (wa : Option Addr) (ws : List (Int × ByteArray)) (wc : Nat) (l : List Bool) (ad : Option Addr) (cap : Nat) (w : World) (hk : Dk.RK w ka ks) (hw : Dk.RW w wa ws) (hl : Dk.RB w ad l) (hok : Dk.chk ks ws = 0) :
    Calls Try.prog 74 #[.agg #[.slice ka ks.length kc, .slice wa ws.length wc], .slice ad l.length cap, .bool false] w fun e w' => ∃ g cap', e = .returned (.agg #[.slice (some ⟨g, 0, none⟩) ks.length cap', .slice none 0 0]) ∧ Dk.RK w' (some ⟨g, 0, none⟩) (Dk.keptTo (fun i => (l[i]?).getD false) ks ws ws.length) ∧ Below w.heap.size w w' := by
  obtain ⟨h1, h2, h3, h4, h5⟩ := Dk.chk_ok hok
  obtain ⟨i0, hi, hz0, hz1, hz2⟩ := info_of Try.infoS
  obtain ⟨b0, o0, rfl, _⟩ := hk.at_ 0 _ (List.getElem?_eq_getElem (by omega : 0 < ks.length))
  have hb0 := ((Below.refl w.heap.size w).alloc (Nat.le_refl _) (Obj.cells #[.slice (some ⟨b0, o0, none⟩) ks.length kc, .slice wa ws.length wc] 29)).alloc (by simp only [World.size_alloc]; omega) (Obj.cells #[.slice none 0 0, .slice none 0 0] 29)
  have HNW := hide ((hk.later (hb0.alloc (by simp only [World.size_alloc]; omega) (Obj.cells #[] 9)) (Nat.le_refl _)).news)
  have how := World.ownsRow_made (base := w.heap.size + 1 + 1) (e := 9) (size := 1) ((w.alloc (Obj.cells #[.slice (some ⟨b0, o0, none⟩) ks.length kc, .slice wa ws.length wc] 29)).alloc (Obj.cells #[.slice none 0 0, .slice none 0 0] 29)) #[] 0 (by simp) (Nat.zero_le _) (by simp)
  rw [World.size_alloc, World.size_alloc] at how
  have HOW := hide how
  clear how
  have HW5 := hide (Dk.chkWs_mem _ _ h5)
  have HW := hide hw
  have HL := hide hl
  have HOK := hide hok
  have HI := hide hi
  have HZ0 := hide hz0
  have HZ1 := hide hz1
  have HZ2 := hide hz2
  have HB0 := hide (hb0.alloc (by simp only [World.size_alloc]; omega) (Obj.cells #[] 9))
  have hwl : (ws.length : Int) ≤ 600 := by omega
  clear hk hw hl hok h3 h5 hi hz0 hz1 hz2 hb0
  go_enter Try.func74, Try.ntmps74
  go_wp2_with (at_builtin; refine wpList_append_lies _ (by rfl) _ _ _ (by rfl) (w.heap.size + 1 + 1) 9 i0 _ 1 16 Try.underlying26 (unhide HI) (unhide HZ0) (unhide HZ1) (unhide HZ2) rfl (by omega) (.slice (some ⟨w.heap.size + 1 + 1, 0, none⟩) 0 0) 0 [] (by rfl) (unhide HOW) ⟨b0, o0, none⟩ ks.length kc (ks.map Value.string) (by rfl) (by simp) (unhide HNW) (Dk.one_s ks) (by omega) (by unfold maxLen; omega) (by omega) (by simp) (w.heap.size + 1 + 1 + 1) (by simp) ?_; intro g cap' w1 hown hgrow hat hlt1; have HO := hide hown; have HG := hide hgrow; have HAT := hide hat; clear hown hgrow hat)
  have hown := unhide HO
  rw [Nat.zero_add, List.nil_append] at hown
  have HO1 := hide (Dk.Own.of hown)
  have hg2 := (unhide HO1).base_le
  have hs1 := (unhide HG).size
  simp at hs1
  have far := fun (b j : Nat) (h1 : b < w.heap.size + 1 + 1) => (unhide HG).cell_far ⟨b, j, none⟩ (by simp; omega) (by simp [Value.ownBlock]; omega)
  have farf := fun (b j : Nat) (h1 : b < w.heap.size + 1 + 1) => (unhide HG).frozen_far ⟨b, j, none⟩ (by simp; omega) (by simp [Value.ownBlock]; omega)
  have d0 := (far w.heap.size 0 (by omega)).trans (show _ = some (.slice (some ⟨b0, o0, none⟩) ks.length kc) by go_simp)
  have d1 := (far w.heap.size 1 (by omega)).trans (show _ = some (.slice wa ws.length wc) by go_simp)
  have r0 := (far (w.heap.size + 1) 0 (by omega)).trans (show _ = some (.slice none 0 0) by go_simp)
  have r1 := (far (w.heap.size + 1) 1 (by omega)).trans (show _ = some (.slice none 0 0) by go_simp)
  have f0 := (farf (w.heap.size + 1) 0 (by omega)).trans (show _ = false by go_simp)
  have f1 := (farf (w.heap.size + 1) 1 (by omega)).trans (show _ = false by go_simp)
  have HBB := hide ((unhide HB0).grown (unhide HG) (by simp; omega) (by intro k hk; simp [Value.ownBlock] at hk; omega))
  clear far farf hown HO HG HAT
  have HCI := hide (show Dk.CI w w1 (.slice (some ⟨b0, o0, none⟩) ks.length kc) (.slice wa ws.length wc) g ks.length cap' ks (w1.alloc (.cells #[.slice (some ⟨g, 0, none⟩) ks.length cap', .slice none 0 0] 29)) from
    ⟨(unhide HBB).alloc (by omega) _, by simp, (unhide HO1).later ((Below.refl _ _).alloc (Nat.le_refl _) _), Dk.cell_alloc d0, Dk.cell_alloc d1, Dk.cell_alloc r0, Dk.cell_alloc r1, Dk.frozen_alloc f0 (show w.heap.size + 1 < _ by omega), Dk.frozen_alloc f1 (show w.heap.size + 1 < _ by omega), by go_simp, by go_simp⟩)
  clear d0 d1 r0 r1 f0 f1
  go_loopw [8] (fun v wr => ∃ k : Nat, k ≤ ws.length ∧ v = .int .i64 k ∧ Dk.CI w w1 (.slice (some ⟨b0, o0, none⟩) ks.length kc) (.slice wa ws.length wc) g ks.length cap' (Dk.keptTo (fun i => (l[i]?).getD false) ks ws k) wr) (fun v _ => ws.length - (intOf v).toNat)
  case atStart => exact ⟨0, by omega, rfl, unhide HCI⟩
  case round =>
    obtain ⟨k, hk, rfl, hci⟩ := hrel
    obtain ⟨hbe, hsz, how, d0, d1, r0, r1, f0, f1, oc0, oc1⟩ := hci
    have HCK := hide (Dk.CI.mk hbe hsz how d0 d1 r0 r1 f0 f1 oc0 oc1)
    have HBE := hide hbe
    clear hbe
    by_cases hlt : k < ws.length
    · obtain ⟨x, hx⟩ : ∃ x, ws[k]? = some x := ⟨ws[k], List.getElem?_eq_getElem hlt⟩
      obtain ⟨b, o, rfl, hb, e0, e1, hts⟩ := ((unhide HW).later (unhide HBE) (Nat.le_refl _)).at_ k x hx
      obtain ⟨b', o', hbo, hbw, _⟩ := (unhide HW).at_ k x hx
      cases hbo
      obtain ⟨hx0, hx1, hx2⟩ := (unhide HW5) x (List.mem_of_getElem? hx)
      have HST := hide (Dk.keptTo_step (fun i => (l[i]?).getD false) ks ws k x hx)
      have hlen := Dk.keptTo_length (fun i => (l[i]?).getD false) ks ws k
      obtain ⟨y, hy⟩ : ∃ y, (Dk.keptTo (fun i => (l[i]?).getD false) ks ws k)[x.1.toNat]? = some y := ⟨_, List.getElem?_eq_getElem (by omega)⟩
      have hcy := how.at_ _ _ hy
      have hfy := how.fr x.1.toNat
      clear hx hts hy hlen how
      have hk1 : (0 : Int) ≤ (k : Int) := by omega
      have hk2 : (k : Int) < (ws.length : Int) := by omega
      have hne1 : b ≠ g := by omega
      have hne2 : w.heap.size ≠ g := by omega
      have hne3 : w1.heap.size ≠ g := by omega
      have hne4 : w.heap.size + 1 ≠ g := by omega
      cases hp : (l[k]?).getD false
      · by_cases hkl : (k : Int) < (l.length : Int)
        · obtain ⟨t, ht⟩ : ∃ t, l[k]? = some t := ⟨l[k], List.getElem?_eq_getElem (by omega)⟩
          have ht2 : t = false := by rw [ht] at hp; exact hp
          subst ht2
          obtain ⟨bb, ob, rfl, hbb, cb⟩ := ((unhide HL).later (unhide HBE) (Nat.le_refl _)).at_ k _ ht
          have HP := hide hp
          clear hp ht
          have hst := unhide HST
          rw [if_neg (by rw [unhide HP]; decide)] at hst
          have HS2 := hide hst
          clear hst HST
          go_wp2_with fail
          refine ⟨⟨k + 1, by omega, by go_num, ?_⟩, by simp [intOf]; omega⟩
          rw [unhide HS2]
          exact unhide HCK
        · have HP := hide hp
          clear hp
          have hst := unhide HST
          rw [if_neg (by rw [unhide HP]; decide)] at hst
          have HS2 := hide hst
          clear hst HST
          go_wp2_with fail
          refine ⟨⟨k + 1, by omega, by go_num, ?_⟩, by simp [intOf]; omega⟩
          rw [unhide HS2]
          exact unhide HCK
      · have hkl : (k : Int) < (l.length : Int) := by
          apply Classical.byContradiction; intro hh
          rw [List.getElem?_eq_none (by omega)] at hp; cases hp
        obtain ⟨t, ht⟩ : ∃ t, l[k]? = some t := ⟨l[k], List.getElem?_eq_getElem (by omega)⟩
        have ht2 : t = true := by rw [ht] at hp; exact hp
        subst ht2
        obtain ⟨bb, ob, rfl, hbb, cb⟩ := ((unhide HL).later (unhide HBE) (Nat.le_refl _)).at_ k _ ht
        have HP := hide hp
        clear hp ht
        have ot : ∀ q j, q ≠ g → (wr.setCell ⟨g, x.1.toNat, none⟩ (.string x.2)).cell? ⟨q, j, none⟩ = wr.cell? ⟨q, j, none⟩ := fun q j hne => World.cell?_setCell_other _ _ _ _ (by intro hh; have := congrArg Addr.block hh; simp at this; omega)
        have k1 := hide ((ot w1.heap.size 0 (by omega)).trans oc0)
        have k2 := hide ((ot w.heap.size 1 (by omega)).trans d1)
        have k3 := hide ((ot b (o + k * 2) hne1).trans e0)
        have k4 := hide ((ot b (o + k * 2 + 1) hne1).trans e1)
        have k5 := hide (show ((wr.setCell ⟨g, x.1.toNat, none⟩ (.string x.2)).cell? ⟨g, x.1.toNat, none⟩).isSome = true by rw [World.cell?_setCell_same _ _ _ hcy]; rfl)
        have k6 := hide (show (wr.setCell ⟨g, x.1.toNat, none⟩ (.string x.2)).frozen? ⟨g, x.1.toNat, none⟩ = false by rw [World.frozen?_setCell]; exact hfy)
        clear ot
        have hst := unhide HST
        rw [if_pos (unhide HP)] at hst
        have HS2 := hide hst
        clear hst HST
        go_wp2_with fail
        go_region_held3 (fun w' => w'.cell? ⟨w1.heap.size, 0, none⟩ = some (.slice (some ⟨g, 0, none⟩) ks.length cap') ∧ w'.cell? ⟨w.heap.size, 1, none⟩ = some (.slice (some ⟨b, o, none⟩) ws.length wc) ∧ w'.cell? ⟨b, o + k * 2, none⟩ = some (.int .i64 x.1) ∧ w'.cell? ⟨b, o + k * 2 + 1, none⟩ = some (.string x.2) ∧ (w'.cell? ⟨g, x.1.toNat, none⟩).isSome = true ∧ w'.frozen? ⟨g, x.1.toNat, none⟩ = false) (first | exact ⟨unhide k1, unhide k2, unhide k3, unhide k4, unhide k5, unhide k6⟩ | (go_keep; done)) (fail)
        go_wp2_with fail
        refine ⟨⟨k + 1, by omega, by go_num, ?_⟩, by simp [intOf]; omega⟩
        rw [unhide HS2]
        exact ((unhide HCK).set (by omega) _ _).drew
    · have hkl : k = ws.length := by omega
      subst hkl
      have HRK := hide ((unhide HCK).own.reads (Dk.keptTo_max _ (unhide HOK) _))
      clear how
      go_wp2_with fail
      refine bodyPost_ret (v := .agg #[.slice (some ⟨g, 0, none⟩) ks.length cap', .slice none 0 0]) (by simp [results, Try.results74, go_sem, r0, r1]) rfl ⟨g, cap', rfl, ?_, ((unhide HBE).setCell (by simp; try omega) _).setCell (by simp; try omega) _⟩
      exact Dk.RK.stored (unhide HRK) (by omega) _ _ _
end Go.Proofs.Ytpabpcojiaklfaa
