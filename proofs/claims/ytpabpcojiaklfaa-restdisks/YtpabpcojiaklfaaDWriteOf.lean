/-
  Contracts of the document's own WriteOf. By the verifier.
-/
import Derived.Test.YtpabpcojiaklfaaDWriteW
namespace Go.Proofs.Ytpabpcojiaklfaa
open Go.RowKit
set_option linter.unusedVariables false

/-- The world within the region of WriteOf. -/
abbrev Dk.WS2 (w : World) (A0 A1 : Value) (W : World) : Prop :=
  W.cell? ⟨w.heap.size, 0, none⟩ = some A0 ∧ W.cell? ⟨w.heap.size, 1, none⟩ = some A1 ∧ Below w.heap.size w W ∧ w.heap.size + 1 + 1 ≤ W.heap.size

section
variable {w : World} {A0 A1 : Value} {W : World}
theorem Dk.WS2.bel (h : Dk.WS2 w A0 A1 W) : Below w.heap.size w W := h.2.2.1
theorem Dk.WS2.le (h : Dk.WS2 w A0 A1 W) : w.heap.size + 1 + 1 ≤ W.heap.size := h.2.2.2
theorem Dk.WS2.drew (h : Dk.WS2 w A0 A1 W) : Dk.WS2 w A0 A1 W.drew := by
  obtain ⟨h1, h2, h9, h10⟩ := h
  exact ⟨h1, h2, h9.drew, h10⟩
theorem Dk.WS2.below {W' : World} (h : Dk.WS2 w A0 A1 W) (hb : Below W.heap.size W W') : Dk.WS2 w A0 A1 W' := by
  obtain ⟨h1, h2, h9, h10⟩ := h
  have hz := hb.size
  have hz0 := h9.size
  refine ⟨?_, ?_, h9.trans (hb.mono hz0), by omega⟩
  · rw [hb.cell (World.block_lt_of_cell? W _ h1)]; exact h1
  · rw [hb.cell (World.block_lt_of_cell? W _ h2)]; exact h2
theorem Dk.WS2.alloc (h : Dk.WS2 w A0 A1 W) (o : Obj) : Dk.WS2 w A0 A1 (W.alloc o) := h.below ((Below.refl _ _).alloc (Nat.le_refl _) o)
theorem Dk.WS2.grown {W' : World} {v : Value} (h : Dk.WS2 w A0 A1 W) (hg : W.grownBy W' v.ownBlock) (hl : ∀ q, v.ownBlock = some q → w.heap.size + 1 + 1 ≤ q) : Dk.WS2 w A0 A1 W' := by
  obtain ⟨g1, g2, g9, g10⟩ := h
  have hs := hg.size
  have far : ∀ j, W'.cell? ⟨w.heap.size, j, none⟩ = W.cell? ⟨w.heap.size, j, none⟩ := fun j => hg.cell_far ⟨w.heap.size, j, none⟩ (show w.heap.size < _ by omega) (by intro hh; have := hl _ hh.symm; simp at this; omega)
  refine ⟨?_, ?_, g9.grown hg (by omega) (fun q hq => by have := hl q hq; omega), by omega⟩
  · rw [far]; exact g1
  · rw [far]; exact g2
theorem Dk.WS2.stored (h : Dk.WS2 w A0 A1 W) (u v : Value) : Dk.WS2 w A0 A1 ((W.setCell ⟨w.heap.size + 1, 0, none⟩ u).setCell ⟨w.heap.size + 1, 1, none⟩ v) := by
  obtain ⟨g1, g2, g9, g10⟩ := h
  have e : ∀ j, ((W.setCell ⟨w.heap.size + 1, 0, none⟩ u).setCell ⟨w.heap.size + 1, 1, none⟩ v).cell? ⟨w.heap.size, j, none⟩ = W.cell? ⟨w.heap.size, j, none⟩ := fun j => by
    rw [World.cell?_setCell_other _ _ _ _ (by intro hh; have := congrArg Addr.block hh; simp at this), World.cell?_setCell_other _ _ _ _ (by intro hh; have := congrArg Addr.block hh; simp at this)]
  refine ⟨?_, ?_, (g9.setCell (by show _ ≤ w.heap.size + 1; omega) _).setCell (by show _ ≤ w.heap.size + 1; omega) _, by simpa using g10⟩
  · rw [e]; exact g1
  · rw [e]; exact g2
end
theorem Dk.sb_grown {W W' : World} {k : Nat} {o : Obj} {v : Value} (hg : W.grownBy W' v.ownBlock) (h : W.heap[k]? = some o) (hne : v.ownBlock ≠ some k) : W'.heap[k]? = some o :=
  (hg.block k (Array.getElem?_eq_some_iff.1 h).1 (fun hh => hne hh.symm)).trans h

set_option maxHeartbeats 1600000 in
theorem WriteOf_cons
    (ka : Option Addr) (ks : List ByteArray) (kc b o : Nat) (ws : List (Int × ByteArray)) (wc : Nat) (n : Int) (s : ByteArray) (w : World) (hw : Dk.RW w (some ⟨b, o, none⟩) ws) (hpos : 0 < ws.length) (h4 : ws.length ≤ 600) (hws : ∀ y ∈ ws, y.2.size ≤ maxLen) (hsm : s.size ≤ maxLen) :
    Calls Try.prog 75 #[.agg #[.slice ka ks.length kc, .slice (some ⟨b, o, none⟩) ws.length wc], .int .i64 n, .string s] w fun e w' => ∃ g2 c2, e = .returned (.agg #[.slice ka ks.length kc, .slice (some ⟨g2, 0, none⟩) (ws.length + 1) c2]) ∧ Dk.RW w' (some ⟨g2, 0, none⟩) (ws ++ [(n, s)]) ∧ Below w.heap.size w w' := by
  obtain ⟨i0, hi, hz0, hz1, hz2⟩ := info_of Try.infoW
  have HI := hide hi
  have HZ0 := hide hz0
  have HZ1 := hide hz1
  have HZ2 := hide hz2
  have HSM := hide hsm
  have HW := hide hw
  have HW32 := hide hws
  clear hw hws
  have how1 := World.ownsRow_made (base := w.heap.size + 1 + 1) (e := 68) (size := 2) ((w.alloc (Obj.cells #[.slice ka ks.length kc, .slice (some ⟨b, o, none⟩) ws.length wc] 29)).alloc (Obj.cells #[.slice none 0 0, .slice none 0 0] 29)) #[] 0 (by simp) (Nat.zero_le _) (by simp)
  have how2 := Dk.ow_alloc how1 (Obj.cells #[.int .i64 n, .string s] 68)
  have how3 := World.ownsRow_made (base := w.heap.size + 1 + 1) (e := 68) (size := 2) (((w.alloc (Obj.cells #[.slice ka ks.length kc, .slice (some ⟨b, o, none⟩) ws.length wc] 29)).alloc (Obj.cells #[.slice none 0 0, .slice none 0 0] 29)).alloc (Obj.cells #[.int .i64 n, .string s] 68)) #[] 0 (by simp) (Nat.zero_le _) (by simp)
  have sb2 := heap_alloc_new (((w.alloc (Obj.cells #[.slice ka ks.length kc, .slice (some ⟨b, o, none⟩) ws.length wc] 29)).alloc (Obj.cells #[.slice none 0 0, .slice none 0 0] 29)).alloc (Obj.cells #[] 68)) (Obj.cells #[.int .i64 n, .string s] 68)
  have sb3 := Dk.sb_below (heap_alloc_new ((w.alloc (Obj.cells #[.slice ka ks.length kc, .slice (some ⟨b, o, none⟩) ws.length wc] 29)).alloc (Obj.cells #[.slice none 0 0, .slice none 0 0] 29)) (Obj.cells #[.int .i64 n, .string s] 68)) ((Below.refl _ _).alloc (Nat.le_refl _) (Obj.cells #[] 68))
  simp only [World.size_alloc] at how1 how2 how3 sb2 sb3
  have H1 := hide how1
  have H2 := hide how2
  have H3 := hide how3
  have SB2 := hide sb2
  have SB3 := hide sb3
  have HWS := hide (show Dk.WS2 w (.slice ka ks.length kc) (.slice (some ⟨b, o, none⟩) ws.length wc) ((w.alloc (Obj.cells #[.slice ka ks.length kc, .slice (some ⟨b, o, none⟩) ws.length wc] 29)).alloc (Obj.cells #[.slice none 0 0, .slice none 0 0] 29)) from ⟨by go_simp, by go_simp, ((Below.refl w.heap.size w).alloc (Nat.le_refl _) _).alloc (by simp only [World.size_alloc]; omega) _, by simp⟩)
  have HD6 := hide (show Dk.D6 (w.heap.size + 1) (World.drew ((w.alloc (Obj.cells #[.slice ka ks.length kc, .slice (some ⟨b, o, none⟩) ws.length wc] 29)).alloc (Obj.cells #[.slice none 0 0, .slice none 0 0] 29))) from ⟨by go_simp, by go_simp, by go_simp, by go_simp⟩)
  clear hi hz0 hz1 hz2 hsm how1 how2 how3 sb2 sb3
  go_enter Try.func75, Try.ntmps75
  go_wp2_with fail
  go_region_held3 (fun W => W.cell? ⟨w.heap.size, 0, none⟩ = some (.slice ka ks.length kc) ∧ W.cell? ⟨w.heap.size, 1, none⟩ = some (.slice (some ⟨b, o, none⟩) ws.length wc) ∧ Below w.heap.size w W ∧ w.heap.size + 1 + 1 ≤ W.heap.size)
    (first
      | assumption
      | exact Dk.WS2.grown (by assumption) (unhide HG2) (unhide HL2)
      | exact Dk.WS2.grown (by assumption) (unhide HG1) (unhide HL1)
      | exact Dk.WS2.stored (by assumption) _ _
      | exact Dk.WS2.alloc (by assumption) _
      | exact Dk.WS2.drew (unhide HWS))
    (first
      | (refine step_append_lies _ rfl (.tmp 9) (.tmp 11) 27 rfl (w.heap.size + 1 + 1) 68 i0 _ 2 24 Try.underlying27 (unhide HI) (unhide HZ0) (unhide HZ1) (unhide HZ2) rfl (by omega) (.slice (some ⟨w.heap.size + 1 + 1, 0, none⟩) 0 0) 0 [] rfl (by first | exact (unhide H1) | exact (unhide H2)) ⟨b, o, none⟩ ws.length wc (Dk.wcells ws) rfl (Dk.wcells_length ws) ((unhide HW).later (Dk.WS2.bel (by assumption)) (Nat.le_refl _)).news (Dk.one_w ws) hpos (by unfold maxLen; omega) (by omega) (Dk.WS2.le (by assumption)) _ rfl ?_; intro g1 c1 w5 ho1 hg1 hat1 hlt1; rw [Nat.zero_add, List.nil_append] at ho1; rw [Nat.zero_add]; have HG1 := hide hg1; have HL1 : Hid (∀ q, Value.ownBlock (.slice (some ⟨w.heap.size + 1 + 1, 0, none⟩) 0 0) = some q → w.heap.size + 1 + 1 ≤ q) := hide (fun q hq => by simp [Value.ownBlock] at hq; omega); have HL2 := hide (fun q hq => (ho1.lt q hq).1); have HO1 := hide ho1; (first | have HSB := hide (Dk.sb_grown hg1 (unhide SB2) (by simp [Value.ownBlock])) | skip); (first | replace HD6 := hide (Dk.D6.grown (unhide HD6) hg1 (unhide HL1) (by omega)) | replace HD6 := hide (Dk.D6.grown (Dk.D6.alloc (unhide HD6) _) hg1 (unhide HL1) (by omega)) | replace HD6 := hide (Dk.D6.grown (Dk.D6.alloc (Dk.D6.alloc (unhide HD6) _) _) hg1 (unhide HL1) (by omega))); clear hat1 hlt1 hg1 ho1)
      | (refine step_append_lies _ rfl (.tmp 9) (.tmp 11) 27 rfl (w.heap.size + 1 + 1) 68 i0 _ 2 24 Try.underlying27 (unhide HI) (unhide HZ0) (unhide HZ1) (unhide HZ2) rfl (by omega) (.slice (some ⟨w.heap.size + 1 + 1 + 1, 0, none⟩) 0 0) 0 [] rfl (unhide H3) ⟨b, o, none⟩ ws.length wc (Dk.wcells ws) rfl (Dk.wcells_length ws) ((unhide HW).later (Dk.WS2.bel (by assumption)) (Nat.le_refl _)).news (Dk.one_w ws) hpos (by unfold maxLen; omega) (by omega) (Dk.WS2.le (by assumption)) _ rfl ?_; intro g1 c1 w5 ho1 hg1 hat1 hlt1; rw [Nat.zero_add, List.nil_append] at ho1; rw [Nat.zero_add]; have HG1 := hide hg1; have HL1 : Hid (∀ q, Value.ownBlock (.slice (some ⟨w.heap.size + 1 + 1 + 1, 0, none⟩) 0 0) = some q → w.heap.size + 1 + 1 ≤ q) := hide (fun q hq => by simp [Value.ownBlock] at hq; omega); have HL2 := hide (fun q hq => (ho1.lt q hq).1); have HO1 := hide ho1; (first | have HSB := hide (Dk.sb_grown hg1 (unhide SB3) (by simp [Value.ownBlock])) | skip); (first | replace HD6 := hide (Dk.D6.grown (unhide HD6) hg1 (unhide HL1) (by omega)) | replace HD6 := hide (Dk.D6.grown (Dk.D6.alloc (unhide HD6) _) hg1 (unhide HL1) (by omega)) | replace HD6 := hide (Dk.D6.grown (Dk.D6.alloc (Dk.D6.alloc (unhide HD6) _) _) hg1 (unhide HL1) (by omega))); clear hat1 hlt1 hg1 ho1)
      | (refine step_append_lies _ rfl (.tmp 12) (.tmp 16) 27 rfl (w.heap.size + 1 + 1) 68 i0 _ 2 24 Try.underlying27 (unhide HI) (unhide HZ0) (unhide HZ1) (unhide HZ2) rfl (by omega) (.slice (some ⟨g1, 0, none⟩) ws.length c1) ws.length (Dk.wcells ws) rfl (by first | exact (unhide HO1) | exact Dk.ow_alloc (unhide HO1) _) _ 1 1 [.int .i64 n, .string s] rfl rfl (by first | exact World.news_of_block (unhide HSB) | exact World.news_of_block (heap_alloc_new _ _)) (by simp [Value.oneCell']) (by omega) (by unfold maxLen; omega) (by omega) (Dk.WS2.le (by assumption)) _ rfl ?_; intro gA cA w6 hoA hgA hatA hltA; have HG2 := hide hgA; have HTW := hide (Dk.TW.of (ws := ws) (x := (n, s)) hoA (unhide HW32) (unhide HSM)); (first | replace HD6 := hide (Dk.D6.grown (unhide HD6) hgA (unhide HL2) (by omega)) | replace HD6 := hide (Dk.D6.grown (Dk.D6.alloc (unhide HD6) _) hgA (unhide HL2) (by omega)) | replace HD6 := hide (Dk.D6.grown (Dk.D6.alloc (Dk.D6.alloc (unhide HD6) _) _) hgA (unhide HL2) (by omega))); have x0 := (unhide HD6).c0; have x1 := (unhide HD6).c1; have x2 := (unhide HD6).f0; have x3 := (unhide HD6).f1; clear hatA hltA hoA hgA)
)
  all_goals
    go_wp2_with fail
    refine bodyPost_ret (v := .agg #[.slice ka ks.length kc, .slice (some ⟨gA, 0, none⟩) (ws.length + 1) cA]) (by simp [results, Try.results75, go_sem, x0, x1]) rfl ⟨gA, cA, rfl, ?_, Dk.WS2.bel (by assumption)⟩
    exact Dk.RW.stored (unhide HTW).rw_ (by have := (unhide HTW).lo; omega) _ _ _

set_option maxHeartbeats 1600000 in
theorem WriteOf_none
    (ka : Option Addr) (ks : List ByteArray) (kc : Nat) (wc : Nat) (n : Int) (s : ByteArray) (w : World) (hsm : s.size ≤ maxLen) :
    Calls Try.prog 75 #[.agg #[.slice ka ks.length kc, .slice none 0 wc], .int .i64 n, .string s] w fun e w' => ∃ g2 c2, e = .returned (.agg #[.slice ka ks.length kc, .slice (some ⟨g2, 0, none⟩) (0 + 1) c2]) ∧ Dk.RW w' (some ⟨g2, 0, none⟩) ([] ++ [(n, s)]) ∧ Below w.heap.size w w' := by
  obtain ⟨i0, hi, hz0, hz1, hz2⟩ := info_of Try.infoW
  have HI := hide hi
  have HZ0 := hide hz0
  have HZ1 := hide hz1
  have HZ2 := hide hz2
  have HSM := hide hsm
  have how1 := World.ownsRow_made (base := w.heap.size + 1 + 1) (e := 68) (size := 2) ((w.alloc (Obj.cells #[.slice ka ks.length kc, .slice none 0 wc] 29)).alloc (Obj.cells #[.slice none 0 0, .slice none 0 0] 29)) #[] 0 (by simp) (Nat.zero_le _) (by simp)
  have how2 := Dk.ow_alloc how1 (Obj.cells #[.int .i64 n, .string s] 68)
  have how3 := World.ownsRow_made (base := w.heap.size + 1 + 1) (e := 68) (size := 2) (((w.alloc (Obj.cells #[.slice ka ks.length kc, .slice none 0 wc] 29)).alloc (Obj.cells #[.slice none 0 0, .slice none 0 0] 29)).alloc (Obj.cells #[.int .i64 n, .string s] 68)) #[] 0 (by simp) (Nat.zero_le _) (by simp)
  have sb2 := heap_alloc_new (((w.alloc (Obj.cells #[.slice ka ks.length kc, .slice none 0 wc] 29)).alloc (Obj.cells #[.slice none 0 0, .slice none 0 0] 29)).alloc (Obj.cells #[] 68)) (Obj.cells #[.int .i64 n, .string s] 68)
  have sb3 := Dk.sb_below (heap_alloc_new ((w.alloc (Obj.cells #[.slice ka ks.length kc, .slice none 0 wc] 29)).alloc (Obj.cells #[.slice none 0 0, .slice none 0 0] 29)) (Obj.cells #[.int .i64 n, .string s] 68)) ((Below.refl _ _).alloc (Nat.le_refl _) (Obj.cells #[] 68))
  simp only [World.size_alloc] at how1 how2 how3 sb2 sb3
  have H1 := hide how1
  have H2 := hide how2
  have H3 := hide how3
  have SB2 := hide sb2
  have SB3 := hide sb3
  have HWS := hide (show Dk.WS2 w (.slice ka ks.length kc) (.slice none 0 wc) ((w.alloc (Obj.cells #[.slice ka ks.length kc, .slice none 0 wc] 29)).alloc (Obj.cells #[.slice none 0 0, .slice none 0 0] 29)) from ⟨by go_simp, by go_simp, ((Below.refl w.heap.size w).alloc (Nat.le_refl _) _).alloc (by simp only [World.size_alloc]; omega) _, by simp⟩)
  have HD6 := hide (show Dk.D6 (w.heap.size + 1) (World.drew ((w.alloc (Obj.cells #[.slice ka ks.length kc, .slice none 0 wc] 29)).alloc (Obj.cells #[.slice none 0 0, .slice none 0 0] 29))) from ⟨by go_simp, by go_simp, by go_simp, by go_simp⟩)
  clear hi hz0 hz1 hz2 hsm how1 how2 how3 sb2 sb3
  go_enter Try.func75, Try.ntmps75
  go_wp2_with fail
  go_region_held3 (fun W => W.cell? ⟨w.heap.size, 0, none⟩ = some (.slice ka ks.length kc) ∧ W.cell? ⟨w.heap.size, 1, none⟩ = some (.slice none 0 wc) ∧ Below w.heap.size w W ∧ w.heap.size + 1 + 1 ≤ W.heap.size)
    (first
      | assumption
      | exact Dk.WS2.grown (by assumption) (unhide HG2) (unhide HL2)
      | exact Dk.WS2.grown (by assumption) (unhide HG1) (unhide HL1)
      | exact Dk.WS2.stored (by assumption) _ _
      | exact Dk.WS2.alloc (by assumption) _
      | exact Dk.WS2.drew (unhide HWS))
    (first
      | (refine step_append_lies _ rfl (.tmp 12) (.tmp 16) 27 rfl (w.heap.size + 1 + 1) 68 i0 _ 2 24 Try.underlying27 (unhide HI) (unhide HZ0) (unhide HZ1) (unhide HZ2) rfl (by omega) (.slice (some ⟨w.heap.size + 1 + 1, 0, none⟩) 0 0) 0 [] rfl (unhide H2) _ 1 1 [.int .i64 n, .string s] rfl rfl (World.news_of_block (unhide SB2)) (by simp [Value.oneCell']) (by omega) (by unfold maxLen; omega) (by omega) (Dk.WS2.le (by assumption)) _ rfl ?_; intro gA cA w6 hoA hgA hatA hltA; have HG2 := hide hgA; have HL2 : Hid (∀ q, Value.ownBlock (.slice (some ⟨w.heap.size + 1 + 1, 0, none⟩) 0 0) = some q → w.heap.size + 1 + 1 ≤ q) := hide (fun q hq => by simp [Value.ownBlock] at hq; omega); rw [List.nil_append] at hoA; have HTW := hide (Dk.TW.of (ws := []) (x := (n, s)) hoA (by intro y hy; cases hy) (unhide HSM)); (first | replace HD6 := hide (Dk.D6.grown (unhide HD6) hgA (unhide HL2) (by omega)) | replace HD6 := hide (Dk.D6.grown (Dk.D6.alloc (unhide HD6) _) hgA (unhide HL2) (by omega)) | replace HD6 := hide (Dk.D6.grown (Dk.D6.alloc (Dk.D6.alloc (unhide HD6) _) _) hgA (unhide HL2) (by omega))); have x0 := (unhide HD6).c0; have x1 := (unhide HD6).c1; have x2 := (unhide HD6).f0; have x3 := (unhide HD6).f1; clear hatA hltA hoA hgA)
      | (refine step_append_lies _ rfl (.tmp 12) (.tmp 16) 27 rfl (w.heap.size + 1 + 1) 68 i0 _ 2 24 Try.underlying27 (unhide HI) (unhide HZ0) (unhide HZ1) (unhide HZ2) rfl (by omega) (.slice (some ⟨w.heap.size + 1 + 1 + 1, 0, none⟩) 0 0) 0 [] rfl (unhide H3) _ 1 1 [.int .i64 n, .string s] rfl rfl (World.news_of_block (unhide SB3)) (by simp [Value.oneCell']) (by omega) (by unfold maxLen; omega) (by omega) (Dk.WS2.le (by assumption)) _ rfl ?_; intro gA cA w6 hoA hgA hatA hltA; have HG2 := hide hgA; have HL2 : Hid (∀ q, Value.ownBlock (.slice (some ⟨w.heap.size + 1 + 1 + 1, 0, none⟩) 0 0) = some q → w.heap.size + 1 + 1 ≤ q) := hide (fun q hq => by simp [Value.ownBlock] at hq; omega); rw [List.nil_append] at hoA; have HTW := hide (Dk.TW.of (ws := []) (x := (n, s)) hoA (by intro y hy; cases hy) (unhide HSM)); (first | replace HD6 := hide (Dk.D6.grown (unhide HD6) hgA (unhide HL2) (by omega)) | replace HD6 := hide (Dk.D6.grown (Dk.D6.alloc (unhide HD6) _) hgA (unhide HL2) (by omega)) | replace HD6 := hide (Dk.D6.grown (Dk.D6.alloc (Dk.D6.alloc (unhide HD6) _) _) hgA (unhide HL2) (by omega))); have x0 := (unhide HD6).c0; have x1 := (unhide HD6).c1; have x2 := (unhide HD6).f0; have x3 := (unhide HD6).f1; clear hatA hltA hoA hgA)
)
  all_goals
    go_wp2_with fail
    refine bodyPost_ret (v := .agg #[.slice ka ks.length kc, .slice (some ⟨gA, 0, none⟩) (0 + 1) cA]) (by simp [results, Try.results75, go_sem, x0, x1]) rfl ⟨gA, cA, rfl, ?_, Dk.WS2.bel (by assumption)⟩
    exact Dk.RW.stored (unhide HTW).rw_ (by have := (unhide HTW).lo; omega) _ _ _

set_option maxHeartbeats 1600000 in
theorem WriteOf_some
    (ka : Option Addr) (ks : List ByteArray) (kc : Nat) (a : Addr) (wc : Nat) (n : Int) (s : ByteArray) (w : World) (hsm : s.size ≤ maxLen) :
    Calls Try.prog 75 #[.agg #[.slice ka ks.length kc, .slice (some a) 0 wc], .int .i64 n, .string s] w fun e w' => ∃ g2 c2, e = .returned (.agg #[.slice ka ks.length kc, .slice (some ⟨g2, 0, none⟩) (0 + 1) c2]) ∧ Dk.RW w' (some ⟨g2, 0, none⟩) ([] ++ [(n, s)]) ∧ Below w.heap.size w w' := by
  obtain ⟨i0, hi, hz0, hz1, hz2⟩ := info_of Try.infoW
  have HI := hide hi
  have HZ0 := hide hz0
  have HZ1 := hide hz1
  have HZ2 := hide hz2
  have HSM := hide hsm
  have how1 := World.ownsRow_made (base := w.heap.size + 1 + 1) (e := 68) (size := 2) ((w.alloc (Obj.cells #[.slice ka ks.length kc, .slice (some a) 0 wc] 29)).alloc (Obj.cells #[.slice none 0 0, .slice none 0 0] 29)) #[] 0 (by simp) (Nat.zero_le _) (by simp)
  have how2 := Dk.ow_alloc how1 (Obj.cells #[.int .i64 n, .string s] 68)
  have how3 := World.ownsRow_made (base := w.heap.size + 1 + 1) (e := 68) (size := 2) (((w.alloc (Obj.cells #[.slice ka ks.length kc, .slice (some a) 0 wc] 29)).alloc (Obj.cells #[.slice none 0 0, .slice none 0 0] 29)).alloc (Obj.cells #[.int .i64 n, .string s] 68)) #[] 0 (by simp) (Nat.zero_le _) (by simp)
  have sb2 := heap_alloc_new (((w.alloc (Obj.cells #[.slice ka ks.length kc, .slice (some a) 0 wc] 29)).alloc (Obj.cells #[.slice none 0 0, .slice none 0 0] 29)).alloc (Obj.cells #[] 68)) (Obj.cells #[.int .i64 n, .string s] 68)
  have sb3 := Dk.sb_below (heap_alloc_new ((w.alloc (Obj.cells #[.slice ka ks.length kc, .slice (some a) 0 wc] 29)).alloc (Obj.cells #[.slice none 0 0, .slice none 0 0] 29)) (Obj.cells #[.int .i64 n, .string s] 68)) ((Below.refl _ _).alloc (Nat.le_refl _) (Obj.cells #[] 68))
  simp only [World.size_alloc] at how1 how2 how3 sb2 sb3
  have H1 := hide how1
  have H2 := hide how2
  have H3 := hide how3
  have SB2 := hide sb2
  have SB3 := hide sb3
  have HWS := hide (show Dk.WS2 w (.slice ka ks.length kc) (.slice (some a) 0 wc) ((w.alloc (Obj.cells #[.slice ka ks.length kc, .slice (some a) 0 wc] 29)).alloc (Obj.cells #[.slice none 0 0, .slice none 0 0] 29)) from ⟨by go_simp, by go_simp, ((Below.refl w.heap.size w).alloc (Nat.le_refl _) _).alloc (by simp only [World.size_alloc]; omega) _, by simp⟩)
  have HD6 := hide (show Dk.D6 (w.heap.size + 1) (World.drew ((w.alloc (Obj.cells #[.slice ka ks.length kc, .slice (some a) 0 wc] 29)).alloc (Obj.cells #[.slice none 0 0, .slice none 0 0] 29))) from ⟨by go_simp, by go_simp, by go_simp, by go_simp⟩)
  clear hi hz0 hz1 hz2 hsm how1 how2 how3 sb2 sb3
  go_enter Try.func75, Try.ntmps75
  go_wp2_with fail
  go_region_held3 (fun W => W.cell? ⟨w.heap.size, 0, none⟩ = some (.slice ka ks.length kc) ∧ W.cell? ⟨w.heap.size, 1, none⟩ = some (.slice (some a) 0 wc) ∧ Below w.heap.size w W ∧ w.heap.size + 1 + 1 ≤ W.heap.size)
    (first
      | assumption
      | exact Dk.WS2.grown (by assumption) (unhide HG2) (unhide HL2)
      | exact Dk.WS2.grown (by assumption) (unhide HG1) (unhide HL1)
      | exact Dk.WS2.stored (by assumption) _ _
      | exact Dk.WS2.alloc (by assumption) _
      | exact Dk.WS2.drew (unhide HWS))
    (first
      | (refine step_append_lies _ rfl (.tmp 12) (.tmp 16) 27 rfl (w.heap.size + 1 + 1) 68 i0 _ 2 24 Try.underlying27 (unhide HI) (unhide HZ0) (unhide HZ1) (unhide HZ2) rfl (by omega) (.slice (some ⟨w.heap.size + 1 + 1, 0, none⟩) 0 0) 0 [] rfl (unhide H2) _ 1 1 [.int .i64 n, .string s] rfl rfl (World.news_of_block (unhide SB2)) (by simp [Value.oneCell']) (by omega) (by unfold maxLen; omega) (by omega) (Dk.WS2.le (by assumption)) _ rfl ?_; intro gA cA w6 hoA hgA hatA hltA; have HG2 := hide hgA; have HL2 : Hid (∀ q, Value.ownBlock (.slice (some ⟨w.heap.size + 1 + 1, 0, none⟩) 0 0) = some q → w.heap.size + 1 + 1 ≤ q) := hide (fun q hq => by simp [Value.ownBlock] at hq; omega); rw [List.nil_append] at hoA; have HTW := hide (Dk.TW.of (ws := []) (x := (n, s)) hoA (by intro y hy; cases hy) (unhide HSM)); (first | replace HD6 := hide (Dk.D6.grown (unhide HD6) hgA (unhide HL2) (by omega)) | replace HD6 := hide (Dk.D6.grown (Dk.D6.alloc (unhide HD6) _) hgA (unhide HL2) (by omega)) | replace HD6 := hide (Dk.D6.grown (Dk.D6.alloc (Dk.D6.alloc (unhide HD6) _) _) hgA (unhide HL2) (by omega))); have x0 := (unhide HD6).c0; have x1 := (unhide HD6).c1; have x2 := (unhide HD6).f0; have x3 := (unhide HD6).f1; clear hatA hltA hoA hgA)
      | (refine step_append_lies _ rfl (.tmp 12) (.tmp 16) 27 rfl (w.heap.size + 1 + 1) 68 i0 _ 2 24 Try.underlying27 (unhide HI) (unhide HZ0) (unhide HZ1) (unhide HZ2) rfl (by omega) (.slice (some ⟨w.heap.size + 1 + 1 + 1, 0, none⟩) 0 0) 0 [] rfl (unhide H3) _ 1 1 [.int .i64 n, .string s] rfl rfl (World.news_of_block (unhide SB3)) (by simp [Value.oneCell']) (by omega) (by unfold maxLen; omega) (by omega) (Dk.WS2.le (by assumption)) _ rfl ?_; intro gA cA w6 hoA hgA hatA hltA; have HG2 := hide hgA; have HL2 : Hid (∀ q, Value.ownBlock (.slice (some ⟨w.heap.size + 1 + 1 + 1, 0, none⟩) 0 0) = some q → w.heap.size + 1 + 1 ≤ q) := hide (fun q hq => by simp [Value.ownBlock] at hq; omega); rw [List.nil_append] at hoA; have HTW := hide (Dk.TW.of (ws := []) (x := (n, s)) hoA (by intro y hy; cases hy) (unhide HSM)); (first | replace HD6 := hide (Dk.D6.grown (unhide HD6) hgA (unhide HL2) (by omega)) | replace HD6 := hide (Dk.D6.grown (Dk.D6.alloc (unhide HD6) _) hgA (unhide HL2) (by omega)) | replace HD6 := hide (Dk.D6.grown (Dk.D6.alloc (Dk.D6.alloc (unhide HD6) _) _) hgA (unhide HL2) (by omega))); have x0 := (unhide HD6).c0; have x1 := (unhide HD6).c1; have x2 := (unhide HD6).f0; have x3 := (unhide HD6).f1; clear hatA hltA hoA hgA)
)
  all_goals
    go_wp2_with fail
    refine bodyPost_ret (v := .agg #[.slice ka ks.length kc, .slice (some ⟨gA, 0, none⟩) (0 + 1) cA]) (by simp [results, Try.results75, go_sem, x0, x1]) rfl ⟨gA, cA, rfl, ?_, Dk.WS2.bel (by assumption)⟩
    exact Dk.RW.stored (unhide HTW).rw_ (by have := (unhide HTW).lo; omega) _ _ _
end Go.Proofs.Ytpabpcojiaklfaa
