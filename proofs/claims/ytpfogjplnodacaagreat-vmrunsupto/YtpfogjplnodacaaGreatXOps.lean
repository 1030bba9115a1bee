/-
  Several texts in one: XTell, XStep, XWrite, XPut, XRead. By the verifier.
-/
import Derived.Test.YtpfogjplnodacaaGreatLD
import Derived.Deep.RegionHeld3
import Derived.Deep.DeepCutAuto
import Derived.Deep.RegionLaw
set_option maxRecDepth 100000
set_option maxHeartbeats 3200000
namespace Go.Proofs.YtpfogjplnodacaaGreat
open Go.RowKit
set_option linter.unusedVariables false
theorem Xr.M.app {w0 W W2 w6 : World} {br : Nat} {fs : Pg.Sl} {s : Xr.S} {ev : Value} (h : Xr.M w0 W br fs s ev) (hb : Below W.heap.size W W2) (hg : W2.grownBy w6 ev.ownBlock) (e : Ev) (g c : Nat)
  (ho : w6.ownsRow w0.heap.size 63 6 (.slice (some ⟨g, 0, none⟩) (s.evs.length + 1) c) (s.evs.length + 1) (Xr.evC s.evs ++ e.cells)) (hat : ev.ownBlock = some g ∨ g = W2.heap.size) (hne : s.ended = false) :
  Xr.M w0 (w6.setCell ⟨br, 4, none⟩ (.slice (some ⟨g, 0, none⟩) (s.evs.length + 1) c)) br fs (Xr.tell s e) (.slice (some ⟨g, 0, none⟩) (s.evs.length + 1) c) ∧
  Xr.Kp br ev (.slice (some ⟨g, 0, none⟩) (s.evs.length + 1) c) [] W (w6.setCell ⟨br, 4, none⟩ (.slice (some ⟨g, 0, none⟩) (s.evs.length + 1) c)) := by
 have hlt := h.lt
 have hz := hb.size
 have hbr : w6.heap[br]? = W.heap[br]? := (hg.block br (by omega) (fun e => h.apart br e.symm rfl)).trans (hb.block br hlt)
 have hgb : g ≠ br := by
  rcases hat with e | e
  · exact h.apart g e
  · omega
 have ht : Xr.tell s e = { s with evs := s.evs ++ [e] } := by unfold Xr.tell; rw [hne]; rfl
 have o4 : ∀ i, i ≠ 4 → (w6.setCell ⟨br, 4, none⟩ (.slice (some ⟨g, 0, none⟩) (s.evs.length + 1) c)).cell? ⟨br, i, none⟩ = W.cell? ⟨br, i, none⟩ := fun i hi => by
  rw [World.cell?_setCell_other _ _ _ _ (by intro hh; exact hi (congrArg Addr.off hh).symm)]
  exact Xr.cell_kept hbr i
 have hk : Xr.Kp br ev (.slice (some ⟨g, 0, none⟩) (s.evs.length + 1) c) [] W (w6.setCell ⟨br, 4, none⟩ (.slice (some ⟨g, 0, none⟩) (s.evs.length + 1) c)) := by
  refine ⟨hg.os.trans hb.os, hg.tape.trans hb.tape, hg.output.trans hb.output, by rw [World.size_setCell]; exact Nat.le_trans hz hg.size, fun q h1 h2 h3 _ => ?_, ?_⟩
  · exact (Xr.set_other h2).trans ((hg.block q (by omega) (fun e => h3 e.symm)).trans (hb.block q h1))
  · rcases hat with e | e
    · exact .inl e.symm
    · right
      intro q hq
      cases hq
      show W.heap.size ≤ g
      omega
 obtain ⟨t, h1, h1'⟩ := h.c1
 refine ⟨⟨hk.bel h.bel h.hbr (fun q hq => (h.ev_lt q hq).1) (fun q hq => by cases hq), h.hbr, (o4 0 (by omega)).trans h.c0, ⟨t, (o4 1 (by omega)).trans h1, by rw [ht]; exact h1'⟩, (o4 2 (by omega)).trans (by rw [ht]; exact h.c2), (o4 3 (by omega)).trans (by rw [ht]; exact h.c3), ?_, (o4 5 (by omega)).trans (by rw [ht]; exact h.c5), fun i => by rw [World.frozen?_setCell]; exact (Xr.frz_kept hbr i).trans (h.fz i), ?_, ?_⟩, hk⟩
 · exact World.cell?_setCell_same _ _ _ ((Xr.cell_kept hbr 4).trans h.c4)
 · rw [ht]
   show World.ownsRow _ _ _ _ _ (s.evs ++ [e]).length (Xr.evC (s.evs ++ [e]))
   rw [Xr.evC_snoc, List.length_append]
   refine Xr.ow_kept ho (fun q hq => ?_)
   cases hq
   exact Xr.set_other hgb
 · intro q hq
   cases hq
   exact hgb
theorem tell_any {w0 : World} (br : Nat) (fs : Pg.Sl) (s : Xr.S) (ev : Value) (e : Ev) (W : World) (h : Xr.M w0 W br fs s ev) (hl : s.ended = false → s.evs.length ≤ 4000) :
  Calls Tryz.prog 107 #[.pointer (some ⟨br, 0, none⟩), e.agg] W fun r W' => r = .returned (.tuple #[]) ∧ ∃ ev', Xr.M w0 W' br fs (Xr.tell s e) ev' ∧ Xr.Kp br ev ev' [] W W' := by
 have hb0 := (Below.refl W.heap.size W).alloc (Nat.le_refl _) (Obj.cells #[.int .i64 e.n0, .int .i64 e.n1, .int .i64 e.n2, .int .i64 e.n3, .int .i64 e.n4, .int .i64 e.n5] 63)
 have hm := h.below hb0
 obtain ⟨a, c, rfl⟩ := h.form
 have HK0 := hide (Xr.Kp.below (br := br) (ev := .slice a s.evs.length c) (ws := []) hb0)
 have hbn := heap_alloc_new W (Obj.cells #[.int .i64 e.n0, .int .i64 e.n1, .int .i64 e.n2, .int .i64 e.n3, .int .i64 e.n4, .int .i64 e.n5] 63)
 have k5 := hm.c5
 have k4 := hm.c4
 have kf := hm.fz 4
 have HM := hide hm
 have hlt : br < (W.alloc (Obj.cells #[.int .i64 e.n0, .int .i64 e.n1, .int .i64 e.n2, .int .i64 e.n3, .int .i64 e.n4, .int .i64 e.n5] 63)).heap.size := hm.lt
 have e0 : (W.alloc (Obj.cells #[.int .i64 e.n0, .int .i64 e.n1, .int .i64 e.n2, .int .i64 e.n3, .int .i64 e.n4, .int .i64 e.n5] 63)).cell? ⟨W.heap.size, 0, none⟩ = some (.int .i64 e.n0) := by go_simp
 have e1 : (W.alloc (Obj.cells #[.int .i64 e.n0, .int .i64 e.n1, .int .i64 e.n2, .int .i64 e.n3, .int .i64 e.n4, .int .i64 e.n5] 63)).cell? ⟨W.heap.size, 1, none⟩ = some (.int .i64 e.n1) := by go_simp
 have e2 : (W.alloc (Obj.cells #[.int .i64 e.n0, .int .i64 e.n1, .int .i64 e.n2, .int .i64 e.n3, .int .i64 e.n4, .int .i64 e.n5] 63)).cell? ⟨W.heap.size, 2, none⟩ = some (.int .i64 e.n2) := by go_simp
 have e3 : (W.alloc (Obj.cells #[.int .i64 e.n0, .int .i64 e.n1, .int .i64 e.n2, .int .i64 e.n3, .int .i64 e.n4, .int .i64 e.n5] 63)).cell? ⟨W.heap.size, 3, none⟩ = some (.int .i64 e.n3) := by go_simp
 have e4 : (W.alloc (Obj.cells #[.int .i64 e.n0, .int .i64 e.n1, .int .i64 e.n2, .int .i64 e.n3, .int .i64 e.n4, .int .i64 e.n5] 63)).cell? ⟨W.heap.size, 4, none⟩ = some (.int .i64 e.n4) := by go_simp
 have e5 : (W.alloc (Obj.cells #[.int .i64 e.n0, .int .i64 e.n1, .int .i64 e.n2, .int .i64 e.n3, .int .i64 e.n4, .int .i64 e.n5] 63)).cell? ⟨W.heap.size, 5, none⟩ = some (.int .i64 e.n5) := by go_simp
 have HEV := hide (show ∀ q, (Value.slice a s.evs.length c).ownBlock = some q → q < W.heap.size ∧ q ≠ br from fun q hq => ⟨(h.ev_lt q hq).2, h.apart q hq⟩)
 have hbl : w0.heap.size ≤ W.heap.size := h.bel.size
 have hbrn : br < W.heap.size := h.lt
 have hsz : (W.alloc (Obj.cells #[.int .i64 e.n0, .int .i64 e.n1, .int .i64 e.n2, .int .i64 e.n3, .int .i64 e.n4, .int .i64 e.n5] 63)).heap.size > W.heap.size := by simp
 have HROW := hide hm.row
 have HAP := hide (fun (hen : s.ended = false) (W2 w6 : World) (h1 : Below (W.alloc (Obj.cells #[.int .i64 e.n0, .int .i64 e.n1, .int .i64 e.n2, .int .i64 e.n3, .int .i64 e.n4, .int .i64 e.n5] 63)).heap.size (W.alloc (Obj.cells #[.int .i64 e.n0, .int .i64 e.n1, .int .i64 e.n2, .int .i64 e.n3, .int .i64 e.n4, .int .i64 e.n5] 63)) W2) (h2 : W2.grownBy w6 (Value.slice a s.evs.length c).ownBlock) (g cc : Nat) (h3 : w6.ownsRow w0.heap.size 63 6 (.slice (some ⟨g, 0, none⟩) (s.evs.length + 1) cc) (s.evs.length + 1) (Xr.evC s.evs ++ e.cells)) (h4 : (Value.slice a s.evs.length c).ownBlock = some g ∨ g = W2.heap.size) => hm.app h1 h2 e g cc h3 h4 hen)
 obtain ⟨i0, hi0, hz0, hz1', hz2⟩ := info_of Tryz.infoEv
 have HI := hide hi0
 have HZ0 := hide hz0
 have HZ1 := hide hz1'
 have HZ2 := hide hz2
 clear h hb0 hm hbn hi0 hz0 hz1' hz2
 unfold Ev.agg
 generalize s.evs.length = n at *
 generalize Xr.evC s.evs = xs at *
 go_enter Tryz.func107, Tryz.ntmps107
 go_upto_region 1 with fail
 generalize W.alloc (Obj.cells #[.int .i64 e.n0, .int .i64 e.n1, .int .i64 e.n2, .int .i64 e.n3, .int .i64 e.n4, .int .i64 e.n5] 63) = W1 at *
 cases hen : s.ended
 case true =>
  have HT := hide (show Xr.tell s e = s by unfold Xr.tell; rw [hen]; rfl)
  rw [hen] at k5
  clear hen e0 e1 e2 e3 e4 e5
  go_wp2_with fail
  go_end0
  exact ⟨rfl, _, by rw [unhide HT]; exact unhide HM, unhide HK0⟩
 case false =>
  have hl4 := hl hen
  have HAP2 := hide ((unhide HAP) hen)
  rw [hen] at k5
  clear hen hl
  go_upto_region 2 with fail
  clear k5
  have HNW := hide (show ∀ j u, [Value.int .i64 e.n0, .int .i64 e.n1, .int .i64 e.n2, .int .i64 e.n3, .int .i64 e.n4, .int .i64 e.n5][j]? = some u → (W1.alloc (Obj.cells #[.int .i64 e.n0, .int .i64 e.n1, .int .i64 e.n2, .int .i64 e.n3, .int .i64 e.n4, .int .i64 e.n5] 63)).drew.cell? ((⟨W1.heap.size, 0, none⟩ : Addr).add j) = some u from World.news_of_block (heap_alloc_new W1 (Obj.cells #[.int .i64 e.n0, .int .i64 e.n1, .int .i64 e.n2, .int .i64 e.n3, .int .i64 e.n4, .int .i64 e.n5] 63)))
  have HBD := hide (show Below W1.heap.size W1 (W1.alloc (Obj.cells #[.int .i64 e.n0, .int .i64 e.n1, .int .i64 e.n2, .int .i64 e.n3, .int .i64 e.n4, .int .i64 e.n5] 63)).drew from ((Below.refl W1.heap.size W1).alloc (Nat.le_refl _) _).drew)
  go_region_law (first
    | (refine step_append_lies _ rfl (.tmp 13) (.tmp 15) 27 rfl w0.heap.size 63 i0 _ 6 48 Tryz.underlying27 (unhide HI) (unhide HZ0) (unhide HZ1) (unhide HZ2) rfl (by omega) (.slice a n c) n xs rfl (Pg.ow_below (unhide HROW) (unhide HBD)) _ 1 1 [.int .i64 e.n0, .int .i64 e.n1, .int .i64 e.n2, .int .i64 e.n3, .int .i64 e.n4, .int .i64 e.n5] rfl rfl (unhide HNW) (by simp [Value.oneCell']) (by omega) (by unfold maxLen; omega) (by omega) (by simp; omega) _ rfl ?_; intro gA cA w6 hoA hgA hatA hltA; have HGA := hide hgA; have HOA := hide hoA; have HAT := hide hatA; have hbb := (hgA.block br (by simp; omega) (fun e => ((unhide HEV) br e.symm).2 rfl)).trans ((unhide HBD).block br (by omega)); have z4 := (Xr.cell_kept hbb 4).trans k4; have z5 := (Xr.frz_kept hbb 4).trans kf; clear hatA hltA hoA hgA hbb))
  all_goals
   go_wp2_with fail
   go_end0
   have hA := (unhide HAP2) _ _ (unhide HBD) (unhide HGA) _ _ (unhide HOA) (unhide HAT)
   exact ⟨rfl, _, hA.1, (unhide HK0).trans hA.2⟩
end Go.Proofs.YtpfogjplnodacaaGreat
namespace Go.Proofs.YtpfogjplnodacaaGreat
open Go.RowKit
set_option linter.unusedVariables false
section
variable {w0 W : World} {br : Nat} {fs : Pg.Sl} {s : Xr.S} {ev : Value}
theorem Xr.M.setOther (h : Xr.M w0 W br fs s ev) (i : Nat) (v : Value) (j : Nat) (hj : j ≠ i) : (W.setCell ⟨br, i, none⟩ v).cell? ⟨br, j, none⟩ = W.cell? ⟨br, j, none⟩ :=
 World.cell?_setCell_other _ _ _ _ (by intro hh; exact hj (congrArg Addr.off hh).symm)
theorem Xr.M.setBel (h : Xr.M w0 W br fs s ev) (i : Nat) (v : Value) : Below w0.heap.size w0 (W.setCell ⟨br, i, none⟩ v) := h.bel.setCell (p := ⟨br, i, none⟩) h.hbr v
theorem Xr.M.setRow (h : Xr.M w0 W br fs s ev) (i : Nat) (v : Value) : (W.setCell ⟨br, i, none⟩ v).ownsRow w0.heap.size 63 6 ev s.evs.length (Xr.evC s.evs) :=
 Xr.ow_kept h.row (fun q hq => Xr.set_other (h.apart q hq))
theorem Xr.M.set5 (h : Xr.M w0 W br fs s ev) (b : Bool) : Xr.M w0 (W.setCell ⟨br, 5, none⟩ (.bool b)) br fs { s with ended := b } ev := by
 obtain ⟨t, h1, h1'⟩ := h.c1
 exact ⟨h.setBel _ _, h.hbr, (h.setOther _ _ 0 (by omega)).trans h.c0, ⟨t, (h.setOther _ _ 1 (by omega)).trans h1, h1'⟩, (h.setOther _ _ 2 (by omega)).trans h.c2, (h.setOther _ _ 3 (by omega)).trans h.c3, (h.setOther _ _ 4 (by omega)).trans h.c4, World.cell?_setCell_same _ _ _ h.c5, fun i => by rw [World.frozen?_setCell]; exact h.fz i, h.setRow _ _, h.apart⟩
theorem Xr.M.set2 (h : Xr.M w0 W br fs s ev) (k : Nat) : Xr.M w0 (W.setCell ⟨br, 2, none⟩ (.int .i64 (k : Nat))) br fs { s with fuel := k } ev := by
 obtain ⟨t, h1, h1'⟩ := h.c1
 exact ⟨h.setBel _ _, h.hbr, (h.setOther _ _ 0 (by omega)).trans h.c0, ⟨t, (h.setOther _ _ 1 (by omega)).trans h1, h1'⟩, World.cell?_setCell_same _ _ _ h.c2, (h.setOther _ _ 3 (by omega)).trans h.c3, (h.setOther _ _ 4 (by omega)).trans h.c4, (h.setOther _ _ 5 (by omega)).trans h.c5, fun i => by rw [World.frozen?_setCell]; exact h.fz i, h.setRow _ _, h.apart⟩
theorem Xr.M.set3 (h : Xr.M w0 W br fs s ev) (k : Nat) : Xr.M w0 (W.setCell ⟨br, 3, none⟩ (.int .i64 (k : Nat))) br fs { s with made := k } ev := by
 obtain ⟨t, h1, h1'⟩ := h.c1
 exact ⟨h.setBel _ _, h.hbr, (h.setOther _ _ 0 (by omega)).trans h.c0, ⟨t, (h.setOther _ _ 1 (by omega)).trans h1, h1'⟩, (h.setOther _ _ 2 (by omega)).trans h.c2, World.cell?_setCell_same _ _ _ h.c3, (h.setOther _ _ 4 (by omega)).trans h.c4, (h.setOther _ _ 5 (by omega)).trans h.c5, fun i => by rw [World.frozen?_setCell]; exact h.fz i, h.setRow _ _, h.apart⟩
theorem Xr.M.set1 (h : Xr.M w0 W br fs s ev) (t : Pg.Sl) (l : List Int) (ht : Pg.RN w0 t l) : Xr.M w0 (W.setCell ⟨br, 1, none⟩ (.slice t.ad t.len t.cap)) br fs { s with inp := l } ev := by
 obtain ⟨t', h1, h1'⟩ := h.c1
 exact ⟨h.setBel _ _, h.hbr, (h.setOther _ _ 0 (by omega)).trans h.c0, ⟨t, World.cell?_setCell_same _ _ _ h1, ht⟩, (h.setOther _ _ 2 (by omega)).trans h.c2, (h.setOther _ _ 3 (by omega)).trans h.c3, (h.setOther _ _ 4 (by omega)).trans h.c4, (h.setOther _ _ 5 (by omega)).trans h.c5, fun i => by rw [World.frozen?_setCell]; exact h.fz i, h.setRow _ _, h.apart⟩
variable {bf : Nat} {gv : Option Nat} {vb : List Nat} {f : Xr.F}
theorem Xr.Fm.other (h : Xr.Fm w0 W bf gv vb f) (b o : Nat) (v : Value) (hb : b ∉ Xr.own bf gv vb) : Xr.Fm w0 (W.setCell ⟨b, o, none⟩ v) bf gv vb f :=
 h.kept (by rw [World.size_setCell]; exact Nat.le_refl _) (fun q hq => Xr.set_other (by rintro rfl; exact hb hq))
theorem Xr.Fm.gne (h : Xr.Fm w0 W bf gv vb f) {g : Nat} (hg : gv = some g) : g ≠ bf ∧ g ∉ vb := by
 have hn := h.nd
 unfold Xr.own at hn
 rw [hg] at hn
 simp at hn
 exact ⟨fun e => hn.1.1 e.symm, hn.2.1⟩
theorem Xr.Fm.bne (h : Xr.Fm w0 W bf gv vb f) {b : Nat} (hb : b ∈ vb) : b ≠ bf := by
 have hn := h.nd
 unfold Xr.own at hn
 rintro rfl
 simp at hn
 exact hn.1.2 hb
theorem Xr.Fm.setAt (h : Xr.Fm w0 W bf gv vb f) (a : Int) : Xr.Fm w0 (W.setCell ⟨bf, 2, none⟩ (.int .i64 a)) bf gv vb { f with at_ := a } := by
 have o2 : ∀ j, j ≠ 2 → (W.setCell ⟨bf, 2, none⟩ (.int .i64 a)).cell? ⟨bf, j, none⟩ = W.cell? ⟨bf, j, none⟩ := fun j hj => World.cell?_setCell_other _ _ _ _ (by intro hh; exact hj (congrArg Addr.off hh).symm)
 obtain ⟨c, h3, h3'⟩ := h.c3
 refine ⟨fun q hq => ⟨(h.hge q hq).1, by rw [World.size_setCell]; exact (h.hge q hq).2⟩, h.nd, (o2 0 (by omega)).trans h.c0, (o2 1 (by omega)).trans h.c1, World.cell?_setCell_same _ _ _ h.c2, ⟨c, (o2 3 (by omega)).trans h3, h3'⟩, fun i => by rw [World.frozen?_setCell]; exact h.fz i, h.len, h.few, fun i b l hb hl => ?_⟩
 obtain ⟨g, c', e1, e2, e3, e4, e5, e6⟩ := h.at_ i b l hb hl
 have kg := Xr.set_other (W := W) (o := 2) (v := .int .i64 a) (h.gne e1).1
 have kb := Xr.set_other (W := W) (o := 2) (v := .int .i64 a) (h.bne (List.mem_of_getElem? hb))
 exact ⟨g, c', e1, (Xr.cell_kept kg i).trans e2, e3, e4, fun j z hz => (Xr.cell_kept kb j).trans (e5 j z hz), fun j => (Xr.frz_kept kb j).trans (e6 j)⟩
end
section
variable {w0 : World} {br : Nat} {fs : Pg.Sl} {s : Xr.S} {ev : Value} {bf : Nat} {gv : Option Nat} {vb : List Nat} {f : Xr.F}
theorem end_any (a how : Int) (W : World) (h : Xr.J w0 W br fs s ev bf gv vb f) (hl : s.ended = false → s.evs.length ≤ 4000) :
  Calls Tryz.prog 69 #[.pointer (some ⟨br, 0, none⟩), .pointer (some ⟨bf, 0, none⟩), .int .i64 a, .int .i64 how] W fun r W' => r = .returned (.tuple #[]) ∧ ∃ ev', Xr.M w0 W' br fs (Xr.fin s f a how) ev' ∧ Xr.Kp br ev ev' [] W W' := by
 have k0 := h.fm.c0
 have HT := hide (show Calls Tryz.prog 107 #[.pointer (some ⟨br, 0, none⟩), .agg #[.int .i64 7, .int .i64 (f.num : Nat), .int .i64 a, .int .i64 0, .int .i64 0, .int .i64 how]] W fun r W' => r = .returned (.tuple #[]) ∧ ∃ ev', Xr.M w0 W' br fs (Xr.tell s ⟨7, f.num, a, 0, 0, how⟩) ev' ∧ Xr.Kp br ev ev' [] W W' from tell_any br fs s ev ⟨7, f.num, a, 0, 0, how⟩ W h.m hl)
 have HF := hide (show Xr.fin s f a how = { Xr.tell s ⟨7, f.num, a, 0, 0, how⟩ with ended := true } from rfl)
 generalize Xr.fin s f a how = s2 at *
 generalize Xr.tell s ⟨7, f.num, a, 0, 0, how⟩ = s1 at *
 clear h hl
 go_enter Tryz.func69, Tryz.ntmps69
 go_wp2_with fail
 refine (unhide HT).mono ?_
 rintro r w1 ⟨rfl, ev1, hm1, hk1⟩
 have k5 := hm1.c5
 have z5 := hm1.fz 5
 have HM1 := hide (hm1.set5 true)
 have HK1 := hide (hk1.set br 5 (.bool true) (.inl rfl))
 clear hm1 hk1
 go_wp2_with fail
 go_end0
 exact ⟨rfl, ev1, by rw [unhide HF]; exact unhide HM1, unhide HK1⟩
theorem step_any (a : Int) (W : World) (h : Xr.J w0 W br fs s ev bf gv vb f) (hl : s.ended = false → s.evs.length ≤ 4000) (hfu : s.fuel ≤ 1000) :
  Calls Tryz.prog 129 #[.pointer (some ⟨br, 0, none⟩), .pointer (some ⟨bf, 0, none⟩), .int .i64 a] W fun r W' => r = .returned (.tuple #[]) ∧ ∃ ev', Xr.J w0 W' br fs (Xr.stepS s f a) ev' bf gv vb (Xr.stepF s f a) ∧ Xr.Kp br ev ev' (Xr.ws bf vb) W W' := by
 have k2 := h.m.c2
 have z2 := h.m.fz 2
 have k0 := h.fm.c0
 have m2 := h.fm.c2
 have y2 := h.fm.fz 2
 have hne : br ≠ bf := fun e => h.nbr (by rw [e]; unfold Xr.own; simp)
 have hne2 : bf ≠ br := Ne.symm hne
 by_cases h0 : s.fuel = 0
 · have HE := hide (end_any a 1 W h hl)
   have HS := hide (show Xr.stepS s f a = Xr.fin s f a 1 by unfold Xr.stepS; rw [if_pos h0])
   have HF := hide (show Xr.stepF s f a = f by unfold Xr.stepF; rw [if_pos h0])
   have HJ := hide h
   rw [h0] at k2
   clear h hl h0 hfu
   go_enter Tryz.func129, Tryz.ntmps129
   go_wp2_with fail
   refine (unhide HE).mono ?_
   rintro r w1 ⟨rfl, ev1, hm1, hk1⟩
   have HM1 := hide hm1
   have HK1 := hide hk1
   clear hm1 hk1
   go_wp2_with fail
   try simp only [Exit.inBlock, Exit.then]
   refine bodyPost_ret (results_none rfl _ _ _) rfl ?_
   rw [unhide HS, unhide HF]
   exact ⟨rfl, ev1, (unhide HJ).told (unhide HM1) (unhide HK1) (fun q hq => by cases hq), (unhide HK1).more (fun q hq => by cases hq)⟩
 · obtain ⟨k, hk⟩ : ∃ k, s.fuel = k + 1 := ⟨s.fuel - 1, by omega⟩
   have hk1 : k ≤ 1000 := by omega
   have hM2 := h.m.set2 k
   have hF2 := h.fm.other br 2 (.int .i64 (k : Nat)) h.nbr
   have hM3 : Xr.M w0 ((W.setCell ⟨br, 2, none⟩ (.int .i64 (k : Nat))).setCell ⟨bf, 2, none⟩ (.int .i64 a)) br fs { s with fuel := k } ev :=
    hM2.kept (hM2.bel.setCell (p := ⟨bf, 2, none⟩) (h.fm.hge bf (by unfold Xr.own; simp)).1 _) (Xr.set_other hne) (fun q hq => Xr.set_other (by rintro rfl; exact h.nev q hq (by unfold Xr.own; simp)))
   have hJ3 : Xr.J w0 ((W.setCell ⟨br, 2, none⟩ (.int .i64 (k : Nat))).setCell ⟨bf, 2, none⟩ (.int .i64 a)) br fs { s with fuel := k } ev bf gv vb { f with at_ := a } := ⟨hM3, hF2.setAt a, h.nbr, h.nev⟩
   have hK3 : Xr.Kp br ev ev (Xr.ws bf vb) W ((W.setCell ⟨br, 2, none⟩ (.int .i64 (k : Nat))).setCell ⟨bf, 2, none⟩ (.int .i64 a)) := ((Xr.Kp.refl br ev (Xr.ws bf vb) W).set br 2 _ (.inl rfl)).set bf 2 _ (.inr (by unfold Xr.ws; simp))
   have HT := hide (show Calls Tryz.prog 107 #[.pointer (some ⟨br, 0, none⟩), .agg #[.int .i64 1, .int .i64 (f.num : Nat), .int .i64 a, .int .i64 0, .int .i64 0, .int .i64 0]] ((W.setCell ⟨br, 2, none⟩ (.int .i64 (k : Nat))).setCell ⟨bf, 2, none⟩ (.int .i64 a)) fun r W' => r = .returned (.tuple #[]) ∧ ∃ ev', Xr.M w0 W' br fs (Xr.tell { s with fuel := k } ⟨1, f.num, a, 0, 0, 0⟩) ev' ∧ Xr.Kp br ev ev' [] _ W' from tell_any br fs { s with fuel := k } ev ⟨1, f.num, a, 0, 0, 0⟩ _ hM3 hl)
   have HS := hide (show Xr.stepS s f a = Xr.tell { s with fuel := k } ⟨1, f.num, a, 0, 0, 0⟩ by unfold Xr.stepS; rw [if_neg h0, hk]; rfl)
   have HF := hide (show Xr.stepF s f a = { f with at_ := a } by unfold Xr.stepF; rw [if_neg h0])
   have HJ := hide hJ3
   have HK := hide hK3
   rw [hk] at k2
   have g0 : (((k + 1 : Nat) : Int) == 0) = false := by simp; omega
   have n0 : ((W.setCell ⟨br, 2, none⟩ (.int .i64 (k : Nat))).setCell ⟨bf, 2, none⟩ (.int .i64 a)).cell? ⟨bf, 0, none⟩ = some (.int .i64 (f.num : Nat)) := hJ3.fm.c0
   have n2 : (W.setCell ⟨br, 2, none⟩ (.int .i64 (k : Nat))).cell? ⟨bf, 2, none⟩ = some (.int .i64 f.at_) := hF2.c2
   clear h hl h0 hfu hk hM2 hF2 hM3 hJ3 hK3
   go_enter Tryz.func129, Tryz.ntmps129
   go_wp2_with fail
   refine (unhide HT).mono ?_
   rintro r w1 ⟨rfl, ev1, hm1, hk1⟩
   have HM1 := hide hm1
   have HK1 := hide hk1
   clear hm1 hk1
   go_wp2_with fail
   go_end0
   rw [unhide HS, unhide HF]
   exact ⟨rfl, ev1, (unhide HJ).told (unhide HM1) (unhide HK1) (fun q hq => by cases hq), (unhide HK).trans ((unhide HK1).more (fun q hq => by cases hq))⟩
theorem value_any (n : Nat) (e : Pg.E) (x : Pg.XT n) (W : World) (h : Xr.J w0 W br fs s ev bf gv vb f) (hx : Pg.RX w0 n e x) (hok : Pg.okV f.vs n x) (hl : s.ended = false → s.evs.length ≤ 4000) :
  Calls Tryz.prog 131 #[.pointer (some ⟨br, 0, none⟩), .pointer (some ⟨bf, 0, none⟩), e.val] W fun r W' => r = .returned (.int .i64 (Xr.valV s f x)) ∧ ∃ ev', Xr.M w0 W' br fs (Xr.valS s f x) ev' ∧ Xr.Kp br ev ev' [] W W' := by
 have hb0 := (Below.refl W.heap.size W).alloc (Nat.le_refl _) (Obj.cells #[.int .i64 e.k, .int .i64 e.n, .slice e.args.ad e.args.len e.args.cap] 69)
 have hJ1 := h.below hb0
 have HK0 := hide (Xr.Kp.below (br := br) (ev := ev) (ws := []) hb0)
 have k5 := hJ1.m.c5
 have e0 : (W.alloc (Obj.cells #[.int .i64 e.k, .int .i64 e.n, .slice e.args.ad e.args.len e.args.cap] 69)).cell? ⟨W.heap.size, 0, none⟩ = some (.int .i64 e.k) := by go_simp
 have e1 : (W.alloc (Obj.cells #[.int .i64 e.k, .int .i64 e.n, .slice e.args.ad e.args.len e.args.cap] 69)).cell? ⟨W.heap.size, 1, none⟩ = some (.int .i64 e.n) := by go_simp
 have e2 : (W.alloc (Obj.cells #[.int .i64 e.k, .int .i64 e.n, .slice e.args.ad e.args.len e.args.cap] 69)).cell? ⟨W.heap.size, 2, none⟩ = some (.slice e.args.ad e.args.len e.args.cap) := by go_simp
 have HJ1 := hide hJ1
 have HSV := hide (show Xr.valS s f x = if s.ended then s else if (Pg.val f.vs n x).2 = 0 then s else Xr.fin s f f.at_ (Pg.val f.vs n x).2 from rfl)
 have HVV := hide (show Xr.valV s f x = if s.ended then 0 else (Pg.val f.vs n x).1 from rfl)
 have HX := hide (fun (V : World) (hV : Below w0.heap.size w0 V) => hx.later hV (Nat.le_refl _))
 have HOK := hide hok
 clear h hb0 hJ1 hx hok
 unfold Pg.E.val
 generalize Xr.valS s f x = s2 at *
 generalize Xr.valV s f x = vv at *
 go_enter Tryz.func131, Tryz.ntmps131
 go_upto_region 1 with fail
 generalize W.alloc (Obj.cells #[.int .i64 e.k, .int .i64 e.n, .slice e.args.ad e.args.len e.args.cap] 69) = W1 at *
 cases hen : s.ended
 case true =>
  have HS := hide (show s2 = s by rw [unhide HSV, hen]; rfl)
  have HV := hide (show vv = 0 by rw [unhide HVV, hen]; rfl)
  rw [hen] at k5
  clear hen
  go_wp2_with fail
  go_ret
  exact ⟨ret_int (by rw [unhide HV]), ev, by rw [unhide HS]; exact (unhide HJ1).m, unhide HK0⟩
 case false =>
  have HS := hide (show s2 = if (Pg.val f.vs n x).2 = 0 then s else Xr.fin s f f.at_ (Pg.val f.vs n x).2 by rw [unhide HSV, hen]; rfl)
  have HV := hide (show vv = (Pg.val f.vs n x).1 by rw [unhide HVV, hen]; rfl)
  rw [hen] at k5
  obtain ⟨vc, k3, hrv⟩ := (unhide HJ1).fm.rv
  have HRK := hide (fun (V : World) (hV : Below W1.heap.size W1 V) => show Calls Tryz.prog 53 #[.agg #[.int .i64 e.k, .int .i64 e.n, .slice e.args.ad e.args.len e.args.cap], .slice (gv.map fun g => ⟨g, 0, none⟩) f.vs.length vc] V fun r w' => r = .returned (.tuple #[.int .i64 (Pg.val f.vs n x).1, .int .i64 (Pg.val f.vs n x).2]) ∧ Below V.heap.size V w' from reckon_any _ _ _ f.vs n e x V ((unhide HX) V ((unhide HJ1).m.bel.trans (hV.mono (unhide HJ1).m.bel.size))) (hrv.later hV (Nat.le_refl _)) (unhide HOK))
  have hbfl := (unhide HJ1).fm.ltf
  have hwl := World.block_lt_of_cell? W1 _ e0
  clear hen hrv HSV HVV
  generalize (Pg.val f.vs n x).1 = v1 at *
  generalize (Pg.val f.vs n x).2 = v2 at *
  generalize gv.map (fun g => (⟨g, 0, none⟩ : Addr)) = va at *
  go_upto_region 3 with fail
  go_cut [7, 8] (fun t7 t8 V => t7 = .int .i64 v1 ∧ t8 = .int .i64 v2 ∧ Below W1.heap.size W1 V)
  case first =>
   have HKM := hide (show ∀ V : World, Below W1.heap.size W1 V → (V.cell? ⟨W.heap.size, 0, none⟩ = some (.int .i64 e.k) ∧ V.cell? ⟨W.heap.size, 1, none⟩ = some (.int .i64 e.n) ∧ V.cell? ⟨W.heap.size, 2, none⟩ = some (.slice e.args.ad e.args.len e.args.cap) ∧ V.cell? ⟨bf, 3, none⟩ = some (.slice va f.vs.length vc) ∧ Below W1.heap.size W1 V) from fun V hV => ⟨(hV.cell (p := ⟨W.heap.size, 0, none⟩) hwl).trans e0, (hV.cell (p := ⟨W.heap.size, 1, none⟩) hwl).trans e1, (hV.cell (p := ⟨W.heap.size, 2, none⟩) hwl).trans e2, (hV.cell (p := ⟨bf, 3, none⟩) hbfl).trans k3, hV⟩)
   clear e0 e1 e2 k3 k5
   go_region_held3 (fun V => V.cell? ⟨W.heap.size, 0, none⟩ = some (.int .i64 e.k) ∧ V.cell? ⟨W.heap.size, 1, none⟩ = some (.int .i64 e.n) ∧ V.cell? ⟨W.heap.size, 2, none⟩ = some (.slice e.args.ad e.args.len e.args.cap) ∧ V.cell? ⟨bf, 3, none⟩ = some (.slice va f.vs.length vc) ∧ Below W1.heap.size W1 V)
    (first | assumption | exact (unhide HKM) _ ((Below.refl _ _).drew) | exact (unhide HKM) _ (((Below.refl W1.heap.size W1).drew).trans ((unhide HB5).mono (Nat.le_refl _))))
    (first | (go_at_call 53; refine ((unhide HRK) _ ?_).mono ?_; exact (Below.refl _ _).drew; rintro r w5 ⟨rfl, hb5⟩; have HB5 := hide hb5; clear hb5))
   all_goals
    go_wp2_with fail
    go_meet
    case rel => exact ⟨rfl, rfl, ((Below.refl W1.heap.size W1).drew).trans ((unhide HB5).mono (Nat.le_refl _))⟩
  case rest =>
   rename World => W2
   obtain ⟨rfl, rfl, hb2⟩ := hcut
   have HJ2 := hide ((unhide HJ1).below hb2)
   have HK2 := hide ((unhide HK0).trans (Xr.Kp.below (br := br) (ev := ev) (ws := []) hb2))
   have m2 := (unhide HJ2).fm.c2
   clear hb2 e0 e1 e2 k3 k5
   by_cases h2 : v2 = 0
   · have b2 : (v2 != 0) = false := by simp [h2]
     have HS2 := hide (show s2 = s by rw [unhide HS, if_pos h2])
     clear h2
     go_wp2_with fail
     go_ret
     exact ⟨ret_int (by rw [unhide HV]), ev, by rw [unhide HS2]; exact (unhide HJ2).m, unhide HK2⟩
   · have b2 : (v2 != 0) = true := by simpa using h2
     have HS2 := hide (show s2 = Xr.fin s f f.at_ v2 by rw [unhide HS, if_neg h2])
     have HE := hide (end_any f.at_ v2 W2 (unhide HJ2) hl)
     clear h2
     go_wp2_with fail
     refine (unhide HE).mono ?_
     rintro r w3 ⟨rfl, ev3, hm3, hk3⟩
     have HM3 := hide hm3
     have HK3 := hide ((unhide HK2).trans hk3)
     clear hm3 hk3
     go_wp2_with fail
     go_ret
     exact ⟨ret_int (by rw [unhide HV]), ev3, by rw [unhide HS2]; exact unhide HM3, unhide HK3⟩
end
end Go.Proofs.YtpfogjplnodacaaGreat
namespace Go.Proofs.YtpfogjplnodacaaGreat
open Go.RowKit
set_option linter.unusedVariables false
theorem Xr.upd_len (vs : List (List Int)) (v i : Nat) (z : Int) : (Xr.upd vs v i z).length = vs.length := by unfold Xr.upd; rw [List.length_set]
theorem Xr.upd_at {vs : List (List Int)} {v : Nat} {l : List Int} (h : vs[v]? = some l) (i : Nat) (z : Int) (k : Nat) : (Xr.upd vs v i z)[k]? = if k = v then some (l.set i z) else vs[k]? := by
 unfold Xr.upd
 have hlt := (List.getElem?_eq_some_iff.1 h).1
 by_cases hk : k = v
 · subst hk
   rw [if_pos rfl, List.getElem?_set_self hlt, h]
   rfl
 · rw [if_neg hk, List.getElem?_set_ne (fun e => hk e.symm)]
section
variable {w0 W : World} {br : Nat} {fs : Pg.Sl} {s : Xr.S} {ev : Value} {bf : Nat} {gv : Option Nat} {vb : List Nat} {f : Xr.F}
theorem Xr.Fm.vnd (h : Xr.Fm w0 W bf gv vb f) : vb.Nodup := by
 have hn := h.nd
 unfold Xr.own at hn
 rw [List.nodup_cons] at hn
 exact (List.nodup_append.1 hn.2).2.1
theorem Xr.Fm.setVar (h : Xr.Fm w0 W bf gv vb f) {v i b : Nat} {l : List Int} (z : Int) (hl : f.vs[v]? = some l) (hb : vb[v]? = some b) (hi : i < l.length) : Xr.Fm w0 (W.setCell ⟨b, i, none⟩ (.int .i64 z)) bf gv vb { f with vs := Xr.upd f.vs v i z } := by
 have hbm := List.mem_of_getElem? hb
 have kf := Xr.set_other (W := W) (o := i) (v := .int .i64 z) (Ne.symm (h.bne hbm))
 obtain ⟨c, h3, h3'⟩ := h.c3
 refine ⟨fun q hq => ⟨(h.hge q hq).1, by rw [World.size_setCell]; exact (h.hge q hq).2⟩, h.nd, (Xr.cell_kept kf 0).trans h.c0, (Xr.cell_kept kf 1).trans h.c1, (Xr.cell_kept kf 2).trans h.c2, ⟨c, ?_, by show (Xr.upd f.vs v i z).length ≤ c; rw [Xr.upd_len]; exact h3'⟩, fun i => by rw [World.frozen?_setCell]; exact h.fz i, by show _ = (Xr.upd f.vs v i z).length; rw [Xr.upd_len]; exact h.len, by show (Xr.upd f.vs v i z).length ≤ _; rw [Xr.upd_len]; exact h.few, fun k b' l' hb' hl' => ?_⟩
 · show _ = some (Value.slice _ (Xr.upd f.vs v i z).length c)
   rw [Xr.upd_len]
   exact (Xr.cell_kept kf 3).trans h3
 · have hl2 : (Xr.upd f.vs v i z)[k]? = some l' := hl'
   rw [Xr.upd_at hl] at hl2
   by_cases hk : k = v
   · subst hk
     rw [if_pos rfl] at hl2
     cases hl2
     rw [hb] at hb'
     cases hb'
     obtain ⟨g, c', e1, e2, e3, e4, e5, e6⟩ := h.at_ k b l hb hl
     have kg := Xr.set_other (W := W) (o := i) (v := .int .i64 z) (q := g) (b := b) (fun e => (h.gne e1).2 (e ▸ hbm))
     refine ⟨g, c', e1, ?_, by rw [List.length_set]; exact e3, by rw [List.length_set]; exact e4, fun j y hj => ?_, fun j => by rw [World.frozen?_setCell]; exact e6 j⟩
     · rw [List.length_set]; exact (Xr.cell_kept kg k).trans e2
     · by_cases hji : j = i
       · subst hji
         rw [List.getElem?_set_self hi] at hj
         cases hj
         exact World.cell?_setCell_same _ _ _ (e5 j _ (List.getElem?_eq_getElem hi))
       · rw [List.getElem?_set_ne (fun e => hji e.symm)] at hj
         rw [World.cell?_setCell_other _ _ _ _ (by intro hh; exact hji (congrArg Addr.off hh).symm)]
         exact e5 j y hj
   · rw [if_neg hk] at hl2
     obtain ⟨g, c', e1, e2, e3, e4, e5, e6⟩ := h.at_ k b' l' hb' hl2
     have hne : b' ≠ b := by
      rintro rfl
      have h1 := (List.getElem?_eq_some_iff.1 hb)
      have h2 := (List.getElem?_eq_some_iff.1 hb')
      have hp := List.pairwise_iff_getElem.1 h.vnd
      rcases Nat.lt_or_gt_of_ne hk with hlt | hlt
      · exact hp k v h2.1 h1.1 hlt (h2.2.trans h1.2.symm)
      · exact hp v k h1.1 h2.1 hlt (h1.2.trans h2.2.symm)
     have kg := Xr.set_other (W := W) (o := i) (v := .int .i64 z) (q := g) (b := b) (fun e => (h.gne e1).2 (e ▸ hbm))
     have kb := Xr.set_other (W := W) (o := i) (v := .int .i64 z) hne
     exact ⟨g, c', e1, (Xr.cell_kept kg k).trans e2, e3, e4, fun j y hj => (Xr.cell_kept kb j).trans (e5 j y hj), fun j => (Xr.frz_kept kb j).trans (e6 j)⟩
end
section
variable {w0 : World} {br : Nat} {fs : Pg.Sl} {s : Xr.S} {ev : Value} {bf : Nat} {gv : Option Nat} {vb : List Nat} {f : Xr.F}
theorem write_any (a : Int) (v i : Nat) (l : List Int) (z : Int) (W : World) (h : Xr.J w0 W br fs s ev bf gv vb f) (hl : s.ended = false → s.evs.length ≤ 4000) (hv : f.vs[v]? = some l) (hi : i < l.length) :
  Calls Tryz.prog 130 #[.pointer (some ⟨br, 0, none⟩), .pointer (some ⟨bf, 0, none⟩), .int .i64 a, .int .i64 (v : Nat), .int .i64 (i : Nat), .int .i64 z] W fun r W' => r = .returned (.tuple #[]) ∧ ∃ ev', Xr.J w0 W' br fs (Xr.wrS s f a v i z) ev' bf gv vb (Xr.wrF f v i z) ∧ Xr.Kp br ev ev' (Xr.ws bf vb) W W' := by
 have hlt : v < f.vs.length := (List.getElem?_eq_some_iff.1 hv).1
 have hltb : v < vb.length := by rw [h.fm.len]; exact hlt
 have hb : vb[v]? = some vb[v] := List.getElem?_eq_getElem hltb
 generalize vb[v] = b at hb
 have hbm := List.mem_of_getElem? hb
 obtain ⟨g, c', e1, e2, e3, e4, e5, e6⟩ := h.fm.at_ v b l hb hv
 obtain ⟨c, k3, k3'⟩ := h.fm.c3
 rw [e1] at k3
 have k3 : W.cell? ⟨bf, 3, none⟩ = some (.slice (some ⟨g, 0, none⟩) f.vs.length c) := k3
 have y0 := e5 i l[i] (List.getElem?_eq_getElem hi)
 have y6 := e6 i
 have hbo : b ∈ Xr.own bf gv vb := by unfold Xr.own; simp [hbm]
 have hJ2 : Xr.J w0 (W.setCell ⟨b, i, none⟩ (.int .i64 z)) br fs s ev bf gv vb { f with vs := Xr.upd f.vs v i z } :=
  ⟨h.m.kept (h.m.bel.setCell (p := ⟨b, i, none⟩) (h.fm.hge b hbo).1 _) (Xr.set_other (fun e => h.nbr (e ▸ hbo))) (fun q hq => Xr.set_other (by rintro rfl; exact h.nev q hq hbo)), h.fm.setVar z hv hb hi, h.nbr, h.nev⟩
 have hK2 : Xr.Kp br ev ev (Xr.ws bf vb) W (W.setCell ⟨b, i, none⟩ (.int .i64 z)) := (Xr.Kp.refl br ev (Xr.ws bf vb) W).set b i _ (.inr (by unfold Xr.ws; simp [hbm]))
 have m0 : (W.setCell ⟨b, i, none⟩ (.int .i64 z)).cell? ⟨bf, 0, none⟩ = some (.int .i64 (f.num : Nat)) := hJ2.fm.c0
 have HT := hide (show Calls Tryz.prog 107 #[.pointer (some ⟨br, 0, none⟩), .agg #[.int .i64 2, .int .i64 (f.num : Nat), .int .i64 a, .int .i64 (v : Nat), .int .i64 (i : Nat), .int .i64 z]] (W.setCell ⟨b, i, none⟩ (.int .i64 z)) fun r W' => r = .returned (.tuple #[]) ∧ ∃ ev', Xr.M w0 W' br fs (Xr.tell s ⟨2, f.num, a, (v : Nat), (i : Nat), z⟩) ev' ∧ Xr.Kp br ev ev' [] _ W' from tell_any br fs s ev ⟨2, f.num, a, (v : Nat), (i : Nat), z⟩ _ hJ2.m hl)
 have HJ := hide hJ2
 have HK := hide hK2
 have HS := hide (show Xr.wrS s f a v i z = Xr.tell s ⟨2, f.num, a, (v : Nat), (i : Nat), z⟩ from rfl)
 have HF := hide (show Xr.wrF f v i z = { f with vs := Xr.upd f.vs v i z } by unfold Xr.wrF; rw [Int.toNat_natCast, Int.toNat_natCast])
 have hi0 : (0 : Int) ≤ (v : Int) := by omega
 have hi1 : (v : Int) < (f.vs.length : Int) := by omega
 have hj0 : (0 : Int) ≤ (i : Int) := by omega
 have hj1 : (i : Int) < (l.length : Int) := by omega
 have hfew := h.fm.few
 have hne1 : b ≠ bf := h.fm.bne hbm
 have hne2 : bf ≠ b := Ne.symm hne1
 clear h hl hJ2 hK2 hv hb hbm hbo e5 e6 k3'
 generalize l[i] = y at *
 generalize f.vs.length = nv at *
 generalize l.length = nl at *
 go_enter Tryz.func130, Tryz.ntmps130
 go_wp2_with fail
 refine (unhide HT).mono ?_
 rintro r w1 ⟨rfl, ev1, hm1, hk1⟩
 have HM1 := hide hm1
 have HK1 := hide hk1
 clear hm1 hk1
 go_wp2_with fail
 go_end0
 rw [unhide HS, unhide HF]
 exact ⟨rfl, ev1, (unhide HJ).told (unhide HM1) (unhide HK1) (fun q hq => by cases hq), (unhide HK).trans ((unhide HK1).more (fun q hq => by cases hq))⟩
end
end Go.Proofs.YtpfogjplnodacaaGreat
namespace Go.Proofs.YtpfogjplnodacaaGreat
open Go.RowKit
set_option linter.unusedVariables false
structure Xr.Sf (W : World) (br : Nat) (ev : Value) (q : Nat) : Prop where
 lt : q < W.heap.size
 br : q ≠ br
 ev : ev.ownBlock ≠ some q
theorem Xr.Kp.safe {br : Nat} {ev ev' : Value} {ws : List Nat} {W W' : World} (h : Xr.Kp br ev ev' ws W W') {q : Nat} (hs : Xr.Sf W br ev q) (hw : q ∉ ws) : Xr.Sf W' br ev' q ∧ W'.heap[q]? = W.heap[q]? := by
 refine ⟨⟨Nat.lt_of_lt_of_le hs.lt h.size, hs.br, ?_⟩, h.block q hs.lt hs.br hs.ev hw⟩
 rcases h.evs with e | e
 · rw [e]; exact hs.ev
 · intro hq
   have := e q hq
   have := hs.lt
   omega
theorem Xr.M.safe_new {w0 W : World} {br : Nat} {fs : Pg.Sl} {s : Xr.S} {ev : Value} (h : Xr.M w0 W br fs s ev) (o : Obj) : Xr.Sf (W.alloc o) br ev W.heap.size :=
 ⟨by simp, by have := h.lt; omega, fun e => by have := (h.ev_lt _ e).2; omega⟩
def Xr.Rm (s : Xr.S) (n : Nat) : Prop := s.ended = false → s.evs.length ≤ n
theorem Xr.Rm.fin (s : Xr.S) (f : Xr.F) (a how : Int) (n : Nat) : Xr.Rm (Xr.fin s f a how) n := by
 unfold Xr.Rm Xr.fin
 intro h
 cases h
theorem Xr.Rm.val {s : Xr.S} {n : Nat} (h : Xr.Rm s n) (f : Xr.F) {k : Nat} (x : Pg.XT k) : Xr.Rm (Xr.valS s f x) n := by
 unfold Xr.valS
 split
 · exact h
 · split
   · exact h
   · exact Xr.Rm.fin _ _ _ _ _
theorem Xr.Rm.tell {s : Xr.S} {n : Nat} (h : Xr.Rm s n) (e : Ev) : Xr.Rm (Xr.tell s e) (n + 1) := by
 unfold Xr.tell
 split
 · intro h'; have := h h'; omega
 · intro h'
   have := h h'
   show (s.evs ++ [e]).length ≤ n + 1
   rw [List.length_append]
   simp
   exact this
theorem Xr.Rm.le {s : Xr.S} {n m : Nat} (h : Xr.Rm s n) (hm : n ≤ m) : Xr.Rm s m := fun e => Nat.le_trans (h e) hm
def Xr.putS {m : Nat} (s : Xr.S) (f : Xr.F) (v : Int) (ix ex : Pg.XT m) : Xr.S :=
 if 0 ≤ Xr.valV s f ix ∧ Xr.valV s f ix < ((f.vs[v.toNat]?.getD []).length : Int) then Xr.wrS (Xr.valS (Xr.valS s f ix) f ex) f f.at_ v (Xr.valV s f ix) (Xr.valV (Xr.valS s f ix) f ex) else Xr.fin (Xr.valS (Xr.valS s f ix) f ex) f f.at_ 3
def Xr.putF {m : Nat} (s : Xr.S) (f : Xr.F) (v : Int) (ix ex : Pg.XT m) : Xr.F :=
 if 0 ≤ Xr.valV s f ix ∧ Xr.valV s f ix < ((f.vs[v.toNat]?.getD []).length : Int) then Xr.wrF f v (Xr.valV s f ix) (Xr.valV (Xr.valS s f ix) f ex) else f
section
variable {w0 : World} {br : Nat} {fs : Pg.Sl} {s : Xr.S} {ev : Value} {bf : Nat} {gv : Option Nat} {vb : List Nat} {f : Xr.F}
theorem put_any {m : Nat} (c : Pg.C) (v : Nat) (l : List Int) (ix ex : Pg.XT m) (W : World) (h : Xr.J w0 W br fs s ev bf gv vb f) (hl : Xr.Rm s 4000) (hcv : c.v = v) (hv : f.vs[v]? = some l) (hix : Pg.RX w0 m c.ix ix) (hex : Pg.RX w0 m c.ex ex) (hoi : Pg.okV f.vs m ix) (hoe : Pg.okV f.vs m ex) :
  Calls Tryz.prog 132 #[.pointer (some ⟨br, 0, none⟩), .pointer (some ⟨bf, 0, none⟩), c.val] W fun r W' => r = .returned (.tuple #[]) ∧ ∃ ev', Xr.J w0 W' br fs (Xr.putS s f c.v ix ex) ev' bf gv vb (Xr.putF s f c.v ix ex) ∧ Xr.Kp br ev ev' (Xr.ws bf vb) W W' := by
 have hb0 := (Below.refl W.heap.size W).alloc (Nat.le_refl _) (Obj.cells #[.int .i64 c.k, .int .i64 c.v, .int .i64 c.f, .int .i64 c.ix.k, .int .i64 c.ix.n, .slice c.ix.args.ad c.ix.args.len c.ix.args.cap, .int .i64 c.ex.k, .int .i64 c.ex.n, .slice c.ex.args.ad c.ex.args.len c.ex.args.cap, .slice c.args.ad c.args.len c.args.cap, .slice c.thn.ad c.thn.len c.thn.cap, .slice c.els.ad c.els.len c.els.cap] 107)
 have hJ1 := h.below hb0
 have hsf := h.m.safe_new (Obj.cells #[.int .i64 c.k, .int .i64 c.v, .int .i64 c.f, .int .i64 c.ix.k, .int .i64 c.ix.n, .slice c.ix.args.ad c.ix.args.len c.ix.args.cap, .int .i64 c.ex.k, .int .i64 c.ex.n, .slice c.ex.args.ad c.ex.args.len c.ex.args.cap, .slice c.args.ad c.args.len c.args.cap, .slice c.thn.ad c.thn.len c.thn.cap, .slice c.els.ad c.els.len c.els.cap] 107)
 have HK0 := hide (Xr.Kp.below (br := br) (ev := ev) (ws := Xr.ws bf vb) hb0)
 have HC := hide (show ∀ V : World, V.heap[W.heap.size]? = (W.alloc (Obj.cells #[.int .i64 c.k, .int .i64 c.v, .int .i64 c.f, .int .i64 c.ix.k, .int .i64 c.ix.n, .slice c.ix.args.ad c.ix.args.len c.ix.args.cap, .int .i64 c.ex.k, .int .i64 c.ex.n, .slice c.ex.args.ad c.ex.args.len c.ex.args.cap, .slice c.args.ad c.args.len c.args.cap, .slice c.thn.ad c.thn.len c.thn.cap, .slice c.els.ad c.els.len c.els.cap] 107)).heap[W.heap.size]? → V.cell? ⟨W.heap.size, 1, none⟩ = some (.int .i64 (v : Nat)) ∧ V.cell? ⟨W.heap.size, 3, none⟩ = some (.int .i64 c.ix.k) ∧ V.cell? ⟨W.heap.size, 4, none⟩ = some (.int .i64 c.ix.n) ∧ V.cell? ⟨W.heap.size, 5, none⟩ = some (.slice c.ix.args.ad c.ix.args.len c.ix.args.cap) ∧ V.cell? ⟨W.heap.size, 6, none⟩ = some (.int .i64 c.ex.k) ∧ V.cell? ⟨W.heap.size, 7, none⟩ = some (.int .i64 c.ex.n) ∧ V.cell? ⟨W.heap.size, 8, none⟩ = some (.slice c.ex.args.ad c.ex.args.len c.ex.args.cap) from fun V hV => by
  refine ⟨?_, ?_, ?_, ?_, ?_, ?_, ?_⟩
  · rw [Xr.cell_kept hV 1, ← hcv]; go_simp
  · rw [Xr.cell_kept hV 3]; go_simp
  · rw [Xr.cell_kept hV 4]; go_simp
  · rw [Xr.cell_kept hV 5]; go_simp
  · rw [Xr.cell_kept hV 6]; go_simp
  · rw [Xr.cell_kept hV 7]; go_simp
  · rw [Xr.cell_kept hV 8]; go_simp)
 obtain ⟨q1, q3, q4, q5, q6, q7, q8⟩ := (unhide HC) _ rfl
 have hnw : W.heap.size ∉ Xr.own bf gv vb := fun e => by have := (h.fm.hge _ e).2; omega
 have HV1 := hide (show Calls Tryz.prog 131 #[.pointer (some ⟨br, 0, none⟩), .pointer (some ⟨bf, 0, none⟩), .agg #[.int .i64 c.ix.k, .int .i64 c.ix.n, .slice c.ix.args.ad c.ix.args.len c.ix.args.cap]] _ fun r W' => r = .returned (.int .i64 (Xr.valV s f ix)) ∧ ∃ ev', Xr.M w0 W' br fs (Xr.valS s f ix) ev' ∧ Xr.Kp br ev ev' [] _ W' from value_any m c.ix ix _ hJ1 hix hoi hl)
 have HV2 := hide (fun (V : World) (ev1 : Value) (hJ : Xr.J w0 V br fs (Xr.valS s f ix) ev1 bf gv vb f) => show Calls Tryz.prog 131 #[.pointer (some ⟨br, 0, none⟩), .pointer (some ⟨bf, 0, none⟩), .agg #[.int .i64 c.ex.k, .int .i64 c.ex.n, .slice c.ex.args.ad c.ex.args.len c.ex.args.cap]] V fun r W' => r = .returned (.int .i64 (Xr.valV (Xr.valS s f ix) f ex)) ∧ ∃ ev', Xr.M w0 W' br fs (Xr.valS (Xr.valS s f ix) f ex) ev' ∧ Xr.Kp br ev1 ev' [] V W' from value_any m c.ex ex V hJ hex hoe (hl.val f ix))
 have HS := hide (show Xr.putS s f c.v ix ex = if 0 ≤ Xr.valV s f ix ∧ Xr.valV s f ix < (l.length : Int) then Xr.wrS (Xr.valS (Xr.valS s f ix) f ex) f f.at_ v (Xr.valV s f ix) (Xr.valV (Xr.valS s f ix) f ex) else Xr.fin (Xr.valS (Xr.valS s f ix) f ex) f f.at_ 3 by unfold Xr.putS; rw [hcv, Int.toNat_natCast, hv]; rfl)
 have HF := hide (show Xr.putF s f c.v ix ex = if 0 ≤ Xr.valV s f ix ∧ Xr.valV s f ix < (l.length : Int) then Xr.wrF f v (Xr.valV s f ix) (Xr.valV (Xr.valS s f ix) f ex) else f by unfold Xr.putF; rw [hcv, Int.toNat_natCast, hv]; rfl)
 have hl2 : Xr.Rm (Xr.valS (Xr.valS s f ix) f ex) 4000 := (hl.val f ix).val f ex
 generalize Xr.putS s f c.v ix ex = sR at *
 generalize Xr.putF s f c.v ix ex = fR at *
 generalize Xr.valV (Xr.valS s f ix) f ex = v2 at *
 generalize Xr.valS (Xr.valS s f ix) f ex = s2 at *
 generalize Xr.valV s f ix = v1 at *
 generalize Xr.valS s f ix = s1 at *
 have HJ1 := hide hJ1
 have HSF := hide hsf
 have HNW := hide hnw
 have HVV := hide hv
 have hll : l.length ≤ 1000 := by
  have hlt : v < vb.length := by rw [h.fm.len]; exact (List.getElem?_eq_some_iff.1 hv).1
  obtain ⟨g, c', e1, e2, e3, e4, _⟩ := h.fm.at_ v _ l (List.getElem?_eq_getElem hlt) hv
  exact e4
 clear h hb0 hJ1 hsf hnw hv hix hex hoi hoe hl hcv
 unfold Pg.C.val
 go_enter Tryz.func132, Tryz.ntmps132
 go_wp2_with fail
 refine (unhide HV1).mono ?_
 rintro r w1 ⟨rfl, ev1, hm1, hk1⟩
 have HJ2 := hide ((unhide HJ1).told hm1 hk1 (fun q hq => by cases hq))
 have hsf1 := hk1.safe (unhide HSF) (by simp)
 have HS1 := hide hsf1
 have HK1 := hide ((unhide HK0).trans (hk1.more (fun q hq => by cases hq)))
 clear hm1 hk1 q1 q3 q4 q5 q6 q7 q8
 obtain ⟨q1, q3, q4, q5, q6, q7, q8⟩ := (unhide HC) _ hsf1.2
 clear hsf1
 go_wp2_with fail
 refine ((unhide HV2) _ _ (unhide HJ2)).mono ?_
 rintro r w2 ⟨rfl, ev2, hm2, hk2⟩
 have hJ3 := (unhide HJ2).told hm2 hk2 (fun q hq => by cases hq)
 have hsf2 := hk2.safe (unhide HS1).1 (by simp)
 have HS2 := hide hsf2.1
 have HK2 := hide ((unhide HK1).trans (hk2.more (fun q hq => by cases hq)))
 clear hm2 hk2 q1 q3 q4 q5 q6 q7 q8
 obtain ⟨q1, q3, q4, q5, q6, q7, q8⟩ := (unhide HC) _ (hsf2.2.trans (unhide HS1).2)
 clear hsf2 q3 q4 q5 q6 q7 q8
 have hvb : v < vb.length := by rw [hJ3.fm.len]; exact (List.getElem?_eq_some_iff.1 (unhide HVV)).1
 obtain ⟨g, c', e1, e2, e3, e4, e5, e6⟩ := hJ3.fm.at_ v _ l (List.getElem?_eq_getElem hvb) (unhide HVV)
 obtain ⟨cc, k3, k3'⟩ := hJ3.fm.c3
 rw [e1] at k3
 have k3 : w2.cell? ⟨bf, 3, none⟩ = some (.slice (some ⟨g, 0, none⟩) f.vs.length cc) := k3
 generalize vb[v] = b at *
 have hi0 : (0 : Int) ≤ (v : Int) := by omega
 have hi1 : (v : Int) < (f.vs.length : Int) := by have := (List.getElem?_eq_some_iff.1 (unhide HVV)).1; omega
 have hfew := hJ3.fm.few
 have k2 := hJ3.fm.c2
 have HJ3 := hide hJ3
 have hbl := hJ3.fm.ltf
 have hcl := (unhide HS2).lt
 have hgl := World.block_lt_of_cell? w2 _ e2
 clear hJ3 e1 e5 e6 k3' hvb
 have HIC := hide (fun (V : World) => isCell_any v1 (some ⟨b, 0, none⟩) l.length c' V (by omega))
 generalize hnv : f.vs.length = nv at *
 clear hnv
 go_upto_region 3 with fail
 go_cut [28] (fun t V => t = .bool (!decide (0 ≤ v1 ∧ v1 < (l.length : Int))) ∧ Below w2.heap.size w2 V)
 case first =>
  have HKM := hide (show ∀ V : World, Below w2.heap.size w2 V → (V.cell? ⟨bf, 3, none⟩ = some (.slice (some ⟨g, 0, none⟩) nv cc) ∧ V.cell? ⟨W.heap.size, 1, none⟩ = some (.int .i64 (v : Nat)) ∧ V.cell? ⟨g, v, none⟩ = some (.slice (some ⟨b, 0, none⟩) l.length c') ∧ Below w2.heap.size w2 V) from fun V hV => ⟨(hV.cell (p := ⟨bf, 3, none⟩) hbl).trans k3, (hV.cell (p := ⟨W.heap.size, 1, none⟩) hcl).trans q1, (hV.cell (p := ⟨g, v, none⟩) hgl).trans e2, hV⟩)
  generalize decide (0 ≤ v1 ∧ v1 < (l.length : Int)) = D at *
  clear k3 q1 e2 k2
  go_region_held3 (fun V => V.cell? ⟨bf, 3, none⟩ = some (.slice (some ⟨g, 0, none⟩) nv cc) ∧ V.cell? ⟨W.heap.size, 1, none⟩ = some (.int .i64 (v : Nat)) ∧ V.cell? ⟨g, v, none⟩ = some (.slice (some ⟨b, 0, none⟩) l.length c') ∧ Below w2.heap.size w2 V)
   (first | assumption | exact (unhide HKM) _ ((Below.refl _ _).drew))
   (first | (go_at_call 96; refine ((unhide HIC) _).mono ?_; rintro r w5 ⟨rfl, hw5⟩; subst hw5))
  all_goals
   go_wp2_with fail
   go_meet
   case rel => exact ⟨rfl, (Below.refl _ _).drew⟩
 case rest =>
  rename World => W4
  obtain ⟨rfl, hb4⟩ := hcut
  have hJ4 := (unhide HJ3).below hb4
  have HJ4 := hide hJ4
  have HK4 := hide ((unhide HK2).trans (Xr.Kp.below (br := br) (ev := ev2) (ws := Xr.ws bf vb) hb4))
  have hs4 := (Xr.Kp.below (br := br) (ev := ev2) (ws := Xr.ws bf vb) hb4).safe (unhide HS2) (fun e => (unhide HNW) (Xr.ws_own e))
  have HS4 := hide hs4.1
  have m2 := hJ4.fm.c2
  have p1 := (hb4.cell (p := ⟨W.heap.size, 1, none⟩) hcl).trans q1
  clear hb4 hJ4 hs4 k3 q1 e2 k2
  by_cases hd : 0 ≤ v1 ∧ v1 < (l.length : Int)
  · have bD : decide (0 ≤ v1 ∧ v1 < (l.length : Int)) = true := decide_eq_true hd
    have HSR := hide (show sR = Xr.wrS s2 f f.at_ v v1 v2 by rw [unhide HS, if_pos hd])
    have HFR := hide (show fR = Xr.wrF f v v1 v2 by rw [unhide HF, if_pos hd])
    obtain ⟨i, rfl⟩ : ∃ i : Nat, v1 = i := ⟨v1.toNat, by omega⟩
    have HWR := hide (fun (V : World) (hJ : Xr.J w0 V br fs s2 ev2 bf gv vb f) => write_any f.at_ v i l v2 V hJ hl2 (unhide HVV) (by omega))
    rw [bD]
    clear hd bD
    go_upto_region 5 with fail
    have HKM := hide (show W4.drew.cell? ⟨bf, 2, none⟩ = some (.int .i64 f.at_) ∧ W4.drew.cell? ⟨W.heap.size, 1, none⟩ = some (.int .i64 (v : Nat)) from ⟨m2, p1⟩)
    have HC5 := hide (fun (V : World) (ev' : Value) (hJ : Xr.J w0 V br fs (Xr.wrS s2 f f.at_ v i v2) ev' bf gv vb (Xr.wrF f v i v2)) (hk : Xr.Kp br ev2 ev' (Xr.ws bf vb) W4.drew V) => show V.cell? ⟨bf, 2, none⟩ = some (.int .i64 f.at_) ∧ V.cell? ⟨W.heap.size, 1, none⟩ = some (.int .i64 (v : Nat)) from ⟨hJ.fm.c2, (Xr.cell_kept (hk.safe ⟨(unhide HS4).lt, (unhide HS4).br, (unhide HS4).ev⟩ (fun e => (unhide HNW) (Xr.ws_own e))).2 1).trans p1⟩)
    clear m2 p1
    go_region_held3 (fun V => V.cell? ⟨bf, 2, none⟩ = some (.int .i64 f.at_) ∧ V.cell? ⟨W.heap.size, 1, none⟩ = some (.int .i64 (v : Nat)))
     (first | assumption | exact unhide HKM | exact (unhide HC5) _ _ (unhide HJ5) (unhide HK5))
     (first | (go_at_call 130; refine ((unhide HWR) _ ?_).mono ?_; exact (unhide HJ4).below ((Below.refl _ _).drew); rintro r w5 ⟨rfl, ev5, hJ5, hK5⟩; have HJ5 := hide hJ5; have HK5 := hide hK5; clear hJ5 hK5))
    all_goals
     go_wp2_with fail
     go_end0
     rw [unhide HSR, unhide HFR]
     exact ⟨rfl, _, unhide HJ5, ((unhide HK4).trans (Xr.Kp.below ((Below.refl _ _).drew))).trans (unhide HK5)⟩
  · have bD : decide (0 ≤ v1 ∧ v1 < (l.length : Int)) = false := decide_eq_false hd
    have HSR := hide (show sR = Xr.fin s2 f f.at_ 3 by rw [unhide HS, if_neg hd])
    have HFR := hide (show fR = f by rw [unhide HF, if_neg hd])
    have HE := hide (end_any f.at_ 3 W4 (unhide HJ4) hl2)
    rw [bD]
    clear hd bD
    go_wp2_with fail
    refine (unhide HE).mono ?_
    rintro r w5 ⟨rfl, ev5, hm5, hk5⟩
    have HJ5 := hide ((unhide HJ4).told hm5 hk5 (fun q hq => by cases hq))
    have HK5 := hide ((unhide HK4).trans (hk5.more (fun q hq => by cases hq)))
    clear hm5 hk5
    go_wp2_with fail
    try simp only [Exit.inBlock, Exit.then]
    refine bodyPost_ret (results_none rfl _ _ _) rfl ?_
    rw [unhide HSR, unhide HFR]
    exact ⟨rfl, _, unhide HJ5, unhide HK5⟩
end
end Go.Proofs.YtpfogjplnodacaaGreat
namespace Go.Proofs.YtpfogjplnodacaaGreat
open Go.RowKit
set_option linter.unusedVariables false
def Xr.inZ (s : Xr.S) : Int := s.inp.headD 0
def Xr.inS (s : Xr.S) : Xr.S := { s with inp := s.inp.tail }
def Xr.readS (s : Xr.S) (f : Xr.F) (v : Int) : Xr.S := Xr.wrS (Xr.tell (Xr.inS s) ⟨3, f.num, f.at_, 0, 0, Xr.inZ s⟩) f f.at_ v 0 (Xr.inZ s)
def Xr.readF (s : Xr.S) (f : Xr.F) (v : Int) : Xr.F := Xr.wrF f v 0 (Xr.inZ s)
theorem Pg.RN.tail {w : World} {b o n c : Nat} {z : Int} {l : List Int} (h : Pg.RN w ⟨some ⟨b, o, none⟩, n, c⟩ (z :: l)) : Pg.RN w ⟨some ⟨b, o + 1, none⟩, n - 1, c - 1⟩ l := by
 have h1 : n = l.length + 1 := h.len
 have h2 : n ≤ c := h.cap
 refine ⟨by show n - 1 = _; omega, by show n - 1 ≤ c - 1; omega, by have := h.few; simp at this; omega, fun i y hy => ?_⟩
 obtain ⟨b', o', e1, e2, e3⟩ := h.at_ (i + 1) y (by simpa using hy)
 cases e1
 exact ⟨b, o + 1, rfl, e2, by rw [show o + 1 + i = o + (i + 1) by omega]; exact e3⟩
section
variable {w0 : World} {br : Nat} {fs : Pg.Sl} {s : Xr.S} {ev : Value} {bf : Nat} {gv : Option Nat} {vb : List Nat} {f : Xr.F}
theorem read_any (v : Nat) (l : List Int) (W : World) (h : Xr.J w0 W br fs s ev bf gv vb f) (hl : Xr.Rm s 3999) (hv : f.vs[v]? = some l) (hll : 0 < l.length) :
  Calls Tryz.prog 134 #[.pointer (some ⟨br, 0, none⟩), .pointer (some ⟨bf, 0, none⟩), .int .i64 (v : Nat)] W fun r W' => r = .returned (.tuple #[]) ∧ ∃ ev', Xr.J w0 W' br fs (Xr.readS s f v) ev' bf gv vb (Xr.readF s f v) ∧ Xr.Kp br ev ev' (Xr.ws bf vb) W W' := by
 obtain ⟨⟨ta, tn, tc⟩, k1, hrn⟩ := h.m.c1
 have k1 : W.cell? ⟨br, 1, none⟩ = some (.slice ta tn tc) := k1
 have hlen : tn = s.inp.length := hrn.len
 have hfew := hrn.few
 have hcap : tn ≤ tc := hrn.cap
 rw [← hlen] at hfew
 have z1 := h.m.fz 1
 have hne : br ≠ bf := fun e => h.nbr (by rw [e]; unfold Xr.own; simp)
 have HTL := hide (fun (V : World) (ev1 : Value) (hJ : Xr.J w0 V br fs (Xr.inS s) ev1 bf gv vb f) => show Calls Tryz.prog 107 #[.pointer (some ⟨br, 0, none⟩), .agg #[.int .i64 3, .int .i64 (f.num : Nat), .int .i64 f.at_, .int .i64 0, .int .i64 0, .int .i64 (Xr.inZ s)]] V fun r W' => r = .returned (.tuple #[]) ∧ ∃ ev', Xr.M w0 W' br fs (Xr.tell (Xr.inS s) ⟨3, f.num, f.at_, 0, 0, Xr.inZ s⟩) ev' ∧ Xr.Kp br ev1 ev' [] V W' from tell_any br fs (Xr.inS s) ev1 ⟨3, f.num, f.at_, 0, 0, Xr.inZ s⟩ V hJ.m (fun e => Nat.le_trans (hl e) (by omega)))
 have HWR := hide (fun (V : World) (ev1 : Value) (hJ : Xr.J w0 V br fs (Xr.tell (Xr.inS s) ⟨3, f.num, f.at_, 0, 0, Xr.inZ s⟩) ev1 bf gv vb f) => show Calls Tryz.prog 130 #[.pointer (some ⟨br, 0, none⟩), .pointer (some ⟨bf, 0, none⟩), .int .i64 f.at_, .int .i64 (v : Nat), .int .i64 0, .int .i64 (Xr.inZ s)] V fun r W' => r = .returned (.tuple #[]) ∧ ∃ ev', Xr.J w0 W' br fs (Xr.readS s f v) ev' bf gv vb (Xr.readF s f v) ∧ Xr.Kp br ev1 ev' (Xr.ws bf vb) V W' from write_any f.at_ v 0 l (Xr.inZ s) V hJ (Xr.Rm.tell (s := Xr.inS s) hl _) hv hll)
 have HJ0 := hide (fun (hn : s.inp = []) => show Xr.J w0 W br fs (Xr.inS s) ev bf gv vb f by
  have : Xr.inS s = s := by unfold Xr.inS; rw [hn]; show { s with inp := [] } = s; rw [← hn]
  rw [this]; exact h)
 have HJt := hide (fun (t : Pg.Sl) (ht : Pg.RN w0 t s.inp.tail) => show Xr.J w0 (W.setCell ⟨br, 1, none⟩ (.slice t.ad t.len t.cap)) br fs (Xr.inS s) ev bf gv vb f from ⟨h.m.set1 t _ ht, h.fm.other br 1 _ h.nbr, h.nbr, h.nev⟩)
 have HIZ := hide (show Xr.inZ s = s.inp.headD 0 from rfl)
 have HBL := hide h.m.bel
 have hbrl := h.m.lt
 have HLT := hide h.m.hbr
 generalize Xr.tell (Xr.inS s) ⟨3, f.num, f.at_, 0, 0, Xr.inZ s⟩ = s2 at *
 generalize Xr.readS s f v = sR at *
 generalize Xr.readF s f v = fR at *
 generalize Xr.inZ s = z at *
 generalize Xr.inS s = s1 at *
 have HRN := hide hrn
 have HLN := hide hlen
 clear h hl hv hll hrn hlen
 go_enter Tryz.func134, Tryz.ntmps134
 go_upto_if 12 with fail
 go_cut [6] (fun t V => t = .int .i64 z ∧ Xr.J w0 V br fs s1 ev bf gv vb f ∧ Xr.Kp br ev ev (Xr.ws bf vb) W V)
 case first =>
  cases hin : s.inp with
  | nil =>
   have hn0 : tn = 0 := by have := unhide HLN; rw [hin] at this; exact this
   have HJ := hide ((unhide HJ0) hin)
   have HZ := hide (show z = 0 by rw [unhide HIZ, hin]; rfl)
   have g0 : decide ((0 : Int) < (tn : Int)) = false := by rw [hn0]; rfl
   have g1 : ¬ (tn : Int) > 0 := by omega
   clear hin hn0
   go_wp2_with fail
   go_meet
   case rel => exact ⟨by rw [unhide HZ], unhide HJ, Xr.Kp.refl _ _ _ _⟩
  | cons z0 r0 =>
   have hn0 : tn = r0.length + 1 := by have := unhide HLN; rw [hin] at this; exact this
   have hrn := unhide HRN
   rw [hin] at hrn
   obtain ⟨b, o, ha, hb, hc⟩ := hrn.at_ 0 z0 rfl
   have ha' : ta = some ⟨b, o, none⟩ := ha
   subst ha'
   have p0 := ((unhide HBL).cell (p := ⟨b, o + 0, none⟩) hb).trans hc
   rw [Nat.add_zero] at p0
   have HZ := hide (show z = z0 by rw [unhide HIZ, hin]; rfl)
   have hbn : b ≠ br := by have := unhide HLT; omega
   by_cases htc : tc = 1
   · subst htc
     have htn : tn = 1 := by omega
     subst htn
     have hr0 : r0 = [] := List.eq_nil_of_length_eq_zero (by omega)
     have HJ := hide ((unhide HJt) ⟨some ⟨b, o, none⟩, 0, 0⟩ (by rw [hin, hr0]; exact ⟨rfl, Nat.le_refl _, by simp, fun i y hy => by simp at hy⟩))
     clear hin hrn hc ha HJ0 HJt HRN HLN hn0 hr0
     go_upto_region 2 with fail
     go_region_law (fail)
     all_goals
      go_wp2_with fail
      go_meet
      case rel => exact ⟨by rw [unhide HZ], (unhide HJ).below ((Below.refl _ _).drew), ((Xr.Kp.refl br ev (Xr.ws bf vb) W).set br 1 _ (.inl rfl)).trans (Xr.Kp.below ((Below.refl _ _).drew))⟩
   · have HJ := hide ((unhide HJt) ⟨some ⟨b, o + 1, none⟩, tn - 1, tc - 1⟩ (by rw [hin]; exact hrn.tail))
     have g1 : (tn : Int) > 0 := by omega
     have g2 : (1 : Int) ≤ (tn : Int) := by omega
     have g3 : (1 : Int) ≤ (tc : Int) := by omega
     have g4 : (0 : Int) < (tn : Int) := by omega
     have g5 : 1 ≤ tn := by omega
     clear hin hrn hc ha HJ0 HJt HRN HLN hn0
     go_upto_region 2 with fail
     go_region_law (fail)
     all_goals
      go_wp2_with fail
      go_meet
      case rel => exact ⟨by rw [unhide HZ], (unhide HJ).below ((Below.refl _ _).drew), ((Xr.Kp.refl br ev (Xr.ws bf vb) W).set br 1 _ (.inl rfl)).trans (Xr.Kp.below ((Below.refl _ _).drew))⟩
 case rest =>
  rename World => W2
  obtain ⟨rfl, hJ2, hk2⟩ := hcut
  have m0 := hJ2.fm.c0
  have m2 := hJ2.fm.c2
  have HJ2 := hide hJ2
  have HK2 := hide hk2
  clear hJ2 hk2 k1 z1
  go_upto_region 3 with fail
  go_cut [] (fun V => ∃ ev3, Xr.J w0 V br fs s2 ev3 bf gv vb f ∧ Xr.Kp br ev ev3 (Xr.ws bf vb) W V)
  case first =>
   have HKM := hide (show W2.drew.cell? ⟨bf, 0, none⟩ = some (.int .i64 (f.num : Nat)) ∧ W2.drew.cell? ⟨bf, 2, none⟩ = some (.int .i64 f.at_) from ⟨m0, m2⟩)
   clear m0 m2
   go_region_held3 (fun V => V.cell? ⟨bf, 0, none⟩ = some (.int .i64 (f.num : Nat)) ∧ V.cell? ⟨bf, 2, none⟩ = some (.int .i64 f.at_))
    (first | assumption | exact unhide HKM | exact ⟨(unhide HJ5).fm.c0, (unhide HJ5).fm.c2⟩)
    (first | (go_at_call 107; refine ((unhide HTL) _ ev ?_).mono ?_; exact (unhide HJ2).below ((Below.refl _ _).drew); rintro r w5 ⟨rfl, ev5, hm5, hk5⟩; have HJ5 := hide (((unhide HJ2).below ((Below.refl _ _).drew)).told hm5 hk5 (fun q hq => by cases hq)); have HK5 := hide hk5; clear hm5 hk5))
   all_goals
    go_wp2_with fail
    go_meet
    case rel => exact ⟨_, unhide HJ5, ((unhide HK2).trans (Xr.Kp.below ((Below.refl _ _).drew))).trans ((unhide HK5).more (fun q hq => by cases hq))⟩
  case rest =>
   rename World => W3
   obtain ⟨ev3, hJ3, hk3⟩ := hcut
   clear m0 m2
   have m2 := hJ3.fm.c2
   have HJ3 := hide hJ3
   have HK3 := hide hk3
   clear hJ3 hk3
   go_wp2_with fail
   refine ((unhide HWR) _ _ (unhide HJ3)).mono ?_
   rintro r w4 ⟨rfl, ev4, hJ4, hk4⟩
   have HJ4 := hide hJ4
   have HK4 := hide ((unhide HK3).trans hk4)
   clear hJ4 hk4
   go_wp2_with fail
   go_end0
   exact ⟨rfl, _, unhide HJ4, unhide HK4⟩
end
end Go.Proofs.YtpfogjplnodacaaGreat
