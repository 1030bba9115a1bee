/-
  VTell, VPop, VCells. By the verifier.
-/
import Derived.Test.YtpfogjplnodacaaGreatLG
import Derived.Deep.RegionHeld3
import Derived.Deep.DeepCutAuto
import Derived.Deep.RegionLaw
set_option maxRecDepth 100000
set_option maxHeartbeats 1600000
namespace Go.Proofs.YtpfogjplnodacaaGreat
open Go.RowKit
set_option linter.unusedVariables false
section
variable {w0 W : World} {tg : Nat → Nat} {N d bm : Nat} {c : Vm.Cx} {t : Pg.Sl} {ss : List (List Int)} {s : Xr.S} {md : Nat} {rf ev : Value} {ps : List Value} {f : Vd.F} {z : Vm.Z} {ms : List Vm.X}
theorem Vm.G.form (h : Vm.G w0 W tg bm c t s md rf ev ps) : ∃ a cp, ev = .slice a s.evs.length cp := by
 rcases h.evr.2 with ⟨h1, h2⟩ | ⟨g, cap, cur, hv, _⟩
 · exact ⟨none, 0, by rw [h2]; exact h1⟩
 · exact ⟨_, _, hv⟩
theorem Vm.Fr.form (h : Vm.Fr w0 W tg N d ss f z) : (z.pv = .slice none 0 0 ∧ f.pile = []) ∨ ∃ g cp, z.pv = .slice (some ⟨g, 0, none⟩) f.pile.length cp ∧ f.pile.length ≤ cp ∧ cp ≤ maxLen := by
 rcases h.pr.2 with ⟨h1, h2⟩ | ⟨g, cap, cur, hv, h1, h2, h3, h4, _⟩
 · exact .inl ⟨h1, List.eq_nil_of_length_eq_zero h2⟩
 · exact .inr ⟨_, _, hv, h3, h4⟩
end
theorem vtell_any {w0 W : World} {tg : Nat → Nat} {bm : Nat} {c : Vm.Cx} {t : Pg.Sl} {s : Xr.S} {md : Nat} {rf ev : Value} {ps : List Value} (h : Vm.G w0 W tg bm c t s md rf ev ps) (bf : Nat) (e : Ev) (k a v i n : Int) (num : Int) (hnum : W.cell? ⟨bf, 0, none⟩ = some (.int .i64 num)) (he : e = ⟨k, num, a, v, i, n⟩) (hl : s.evs.length ≤ 1000000) :
  Calls Tryz.prog 89 #[.pointer (some ⟨bm, 0, none⟩), .pointer (some ⟨bf, 0, none⟩), .agg #[.int .i64 k, .int .i64 0, .int .i64 a, .int .i64 v, .int .i64 i, .int .i64 n]] W fun r W' => r = .returned (.tuple #[]) ∧ ∃ tg' ev', Vm.G w0 W' tg' bm c t { s with evs := s.evs ++ [e] } md rf ev' ps ∧ Vm.K (fun j => j < 3) tg tg' W W' := by
 obtain ⟨ea, cp, rfl⟩ := h.form
 have hbf : bf < W.heap.size := World.block_lt_of_cell? W _ hnum
 have hbm := h.box.lt
 have hb2 := (Below.refl W.heap.size W).alloc (Nat.le_refl _) (Obj.cells #[.int .i64 k, .int .i64 num, .int .i64 a, .int .i64 v, .int .i64 i, .int .i64 n] 63)
 have hbx := Vm.Bx.new (heap_alloc_new W (Obj.cells #[.int .i64 k, .int .i64 num, .int .i64 a, .int .i64 v, .int .i64 i, .int .i64 n] 63))
 have hG := h.keep (C := fun _ => False) (Vm.K.below (tg := tg) hb2) (fun _ _ => id)
 have HK0 := hide (Vm.K.below (C := fun j => j < 3) (tg := tg) hb2)
 obtain ⟨i0, hi0, hz0, hz1', hz2⟩ := info_of Tryz.infoEv
 have HI := hide hi0
 have HZ0 := hide hz0
 have HZ1 := hide hz1'
 have HZ2 := hide hz2
 have hsz : W.heap.size < (W.alloc (Obj.cells #[.int .i64 k, .int .i64 num, .int .i64 a, .int .i64 v, .int .i64 i, .int .i64 n] 63)).heap.size := by simp
 have hbl : w0.heap.size ≤ W.heap.size := h.bel.size
 go_enter Tryz.func89, Tryz.ntmps89
 go_upto_region 2 with fail
 clear h hb2 hnum hi0 hz0 hz1' hz2
 generalize W.alloc (Obj.cells #[.int .i64 k, .int .i64 num, .int .i64 a, .int .i64 v, .int .i64 i, .int .i64 n] 63) = W1 at *
 have e0 := hbx.at_ 0 _ rfl
 have e1 := hbx.at_ 1 _ rfl
 have e2 := hbx.at_ 2 _ rfl
 have e3 := hbx.at_ 3 _ rfl
 have e4 := hbx.at_ 4 _ rfl
 have e5 := hbx.at_ 5 _ rfl
 have k7 := hG.box.at_ 7 _ rfl
 have kf := hG.box.fz 7
 have hbm1 := hG.box.lt
 have HROW := hide hG.evr
 have HNE := hide (show ∀ q, (Value.slice ea s.evs.length cp).ownBlock = some q → q ≠ bm from fun q hq => by rintro rfl; have := hG.tev q hq; rw [hG.tb] at this; exact absurd this (by decide))
 have HAP := hide (fun (W2 w6 : World) (h1 : Below W1.heap.size W1 W2) (h2 : W2.grownBy w6 (Value.slice ea s.evs.length cp).ownBlock) (g cc : Nat) (h3 : w6.ownsRow w0.heap.size 63 6 (.slice (some ⟨g, 0, none⟩) (s.evs.length + 1) cc) (s.evs.length + 1) (Xr.evC s.evs ++ e.cells)) (h4 : (Value.slice ea s.evs.length cp).ownBlock = some g ∨ g = W2.heap.size) => hG.told h1 h2 e g cc h3 h4)
 subst he
 clear hG hbx
 generalize s.evs.length = m at *
 generalize Xr.evC s.evs = xs at *
 have HNW := hide (show ∀ j u, [Value.int .i64 k, .int .i64 num, .int .i64 a, .int .i64 v, .int .i64 i, .int .i64 n][j]? = some u → (W1.alloc (Obj.cells #[.int .i64 k, .int .i64 num, .int .i64 a, .int .i64 v, .int .i64 i, .int .i64 n] 63)).drew.cell? ((⟨W1.heap.size, 0, none⟩ : Addr).add j) = some u from World.news_of_block (heap_alloc_new W1 (Obj.cells #[.int .i64 k, .int .i64 num, .int .i64 a, .int .i64 v, .int .i64 i, .int .i64 n] 63)))
 have HBD := hide (show Below W1.heap.size W1 (W1.alloc (Obj.cells #[.int .i64 k, .int .i64 num, .int .i64 a, .int .i64 v, .int .i64 i, .int .i64 n] 63)).drew from ((Below.refl W1.heap.size W1).alloc (Nat.le_refl _) _).drew)
 go_region_law (first
   | (refine step_append_lies _ rfl (.tmp 15) (.tmp 17) 27 rfl w0.heap.size 63 i0 _ 6 48 Tryz.underlying27 (unhide HI) (unhide HZ0) (unhide HZ1) (unhide HZ2) rfl (by omega) (.slice ea m cp) m xs rfl (Pg.ow_below (unhide HROW) (unhide HBD)) _ 1 1 [.int .i64 k, .int .i64 num, .int .i64 a, .int .i64 v, .int .i64 i, .int .i64 n] rfl rfl (unhide HNW) (by simp [Value.oneCell']) (by omega) (by unfold maxLen; omega) (by omega) (by simp; omega) _ rfl ?_; intro gA cA w6 hoA hgA hatA hltA; have HGA := hide hgA; have HOA := hide hoA; have HAT := hide hatA; have hbb := (hgA.block bm (by simp; omega) (fun e => (unhide HNE) bm e.symm rfl)).trans ((unhide HBD).block bm (by omega)); have z4 := (Xr.cell_kept hbb 7).trans k7; have z5 := (Xr.frz_kept hbb 7).trans kf; clear hatA hltA hoA hgA hbb))
 all_goals
  go_wp2_with fail
  go_end0
  have hA := (unhide HAP) _ _ (unhide HBD) (unhide HGA) _ _ (unhide HOA) (unhide HAT)
  exact ⟨rfl, _, _, hA.1, (unhide HK0).trans hA.2⟩
theorem vend_any {w0 W : World} {tg : Nat → Nat} {bm : Nat} {c : Vm.Cx} {t : Pg.Sl} {s : Xr.S} {md : Nat} {rf ev : Value} {ps : List Value} (h : Vm.G w0 W tg bm c t s md rf ev ps) (bf : Nat) (f : Xr.F) (a how : Int) (hnum : W.cell? ⟨bf, 0, none⟩ = some (.int .i64 (f.num : Nat))) (hs : s.ended = false) (hl : s.evs.length ≤ 1000000) :
  Calls Tryz.prog 92 #[.pointer (some ⟨bm, 0, none⟩), .pointer (some ⟨bf, 0, none⟩), .int .i64 a, .int .i64 how] W fun r W' => r = .returned (.tuple #[]) ∧ ∃ tg' ev', Vm.G w0 W' tg' bm c t (Xr.fin s f a how) md rf ev' ps ∧ Vm.K (fun j => j < 3) tg tg' W W' := by
 have HT := hide (vtell_any h bf ⟨7, f.num, a, 0, 0, how⟩ 7 a 0 0 how _ hnum rfl hl)
 have HF := hide (show Xr.fin s f a how = { s with evs := s.evs ++ [⟨7, f.num, a, 0, 0, how⟩], ended := true } by unfold Xr.fin; rw [Vd.tell_evs hs])
 generalize Xr.fin s f a how = s2 at *
 clear h hl hs hnum
 go_enter Tryz.func92, Tryz.ntmps92
 go_wp2_with fail
 refine (unhide HT).mono ?_
 rintro r w1 ⟨rfl, tg1, ev1, hg1, hk1⟩
 have k8 := hg1.box.at_ 8 _ rfl
 have z8 := hg1.box.fz 8
 have HG1 := hide (hg1.set 8 (.bool true) (s' := { s with evs := s.evs ++ [⟨7, f.num, a, 0, 0, how⟩], ended := true }) rfl hg1.inp rfl)
 have HK1 := hide hk1
 clear hg1 hk1
 go_wp2_with fail
 go_end0
 exact ⟨rfl, tg1, ev1, by rw [unhide HF]; exact (unhide HG1).1, (unhide HK1).trans (unhide HG1).2⟩
theorem vpush_any {w0 W : World} {tg : Nat → Nat} {N d : Nat} {ss : List (List Int)} {f : Vd.F} {z : Vm.Z} (h : Vm.Fr w0 W tg N d ss f z) (h0 : w0.heap.size ≤ W.heap.size) (n : Int) (hl : f.pile.length ≤ 1000) :
  Calls Tryz.prog 81 #[.pointer (some ⟨z.bf, 0, none⟩), .int .i64 n] W fun r W' => r = .returned (.tuple #[]) ∧ ∃ tg' z', z'.bf = z.bf ∧ Vm.Fr w0 W' tg' N d ss { f with pile := n :: f.pile } z' ∧ Vm.K (Vm.Cf d) tg tg' W W' := by
 obtain ⟨pa, cp, hpv⟩ : ∃ a cp, z.pv = .slice a f.pile.length cp := by
  rcases h.form with ⟨h1, h2⟩ | ⟨g, cp, h1, _⟩
  · exact ⟨none, 0, by rw [h1, h2]; rfl⟩
  · exact ⟨_, _, h1⟩
 have k3 : W.cell? ⟨z.bf, 3, none⟩ = some (.slice pa f.pile.length cp) := by rw [← hpv]; exact h.box.at_ 3 _ rfl
 have kf := h.box.fz 3
 have hlt := h.box.lt
 obtain ⟨i0, hi0, hz0, hz1', hz2⟩ := info_of Tryz.infoI3
 have HI := hide hi0
 have HZ0 := hide hz0
 have HZ1 := hide hz1'
 have HZ2 := hide hz2
 have HROW := hide (show W.ownsRow w0.heap.size 3 1 (.slice pa f.pile.length cp) f.pile.length (f.pile.reverse.map (Value.int .i64)) by rw [← hpv]; exact h.pr)
 have HBK := hide (heap_alloc_new W (Obj.cells #[.int .i64 n] 3))
 have HBD := hide (show Below W.heap.size W (W.alloc (Obj.cells #[.int .i64 n] 3)) from (Below.refl _ _).alloc (Nat.le_refl _) _)
 have HAP := hide (fun (w6 : World) (hg : (W.alloc (Obj.cells #[.int .i64 n] 3)).grownBy w6 (Value.slice pa f.pile.length cp).ownBlock) (g cc : Nat) (ho : w6.ownsRow w0.heap.size 3 1 (.slice (some ⟨g, 0, none⟩) (f.pile.length + 1) cc) (f.pile.length + 1) (f.pile.reverse.map (Value.int .i64) ++ [.int .i64 n])) (hat : (Value.slice pa f.pile.length cp).ownBlock = some g ∨ g = (W.alloc (Obj.cells #[.int .i64 n] 3)).heap.size) => h.pushed (unhide HBD) (by rw [hpv]; exact hg) n g cc ho (by rw [hpv]; exact hat))
 have HGB := hide (fun (w6 : World) (hg : (W.alloc (Obj.cells #[.int .i64 n] 3)).grownBy w6 (Value.slice pa f.pile.length cp).ownBlock) => show w6.heap[z.bf]? = W.heap[z.bf]? from (hg.block z.bf (by simp; omega) (fun e => by have := h.tp z.bf (by rw [hpv]; exact e.symm); rw [h.tb] at this; omega)).trans ((unhide HBD).block z.bf hlt))
 generalize f.pile.length = m at *
 generalize f.pile.reverse.map (Value.int .i64) = xs at *
 clear h hi0 hz0 hz1' hz2 hpv
 go_enter Tryz.func81, Tryz.ntmps81
 go_wp2_with (at_builtin; refine wpList_append_lies _ (by rfl) _ _ _ (by rfl) w0.heap.size 3 i0 _ 1 8 Tryz.underlying23 (unhide HI) (unhide HZ0) (unhide HZ1) (unhide HZ2) rfl (by omega) (.slice pa m cp) m xs (by rfl) (Pg.ow_below (unhide HROW) (unhide HBD)) ⟨W.heap.size, 0, none⟩ 1 1 [.int .i64 n] (by rfl) (by rfl) (World.news_of_block (unhide HBK)) (by simp [Value.oneCell']) (by omega) (by unfold maxLen; omega) (by omega) (by simp; omega) (W.heap.size + 1) (by simp) ?_; intro gA cA w6 hoA hgA hatA hltA; have HOA := hide hoA; have HGA := hide hgA; have HAT := hide (show (Value.slice pa m cp).ownBlock = some gA ∨ gA = (W.alloc (Obj.cells #[.int .i64 n] 3)).heap.size from hatA.imp id (fun e => by rw [e]; simp)); have hbb := (unhide HGB) w6 hgA; have z4 := (Xr.cell_kept hbb 3).trans k3; have z5 := (Xr.frz_kept hbb 3).trans kf; clear hatA hltA hoA hgA hbb)
 go_end0
 have hA := (unhide HAP) _ (unhide HGA) _ _ (unhide HOA) (unhide HAT)
 refine ⟨rfl, _, _, ?_, hA.1, hA.2⟩
 rfl
end Go.Proofs.YtpfogjplnodacaaGreat
namespace Go.Proofs.YtpfogjplnodacaaGreat
open Go.RowKit Go.Maps
set_option linter.unusedVariables false
theorem Vm.rev_at {l : List Int} {k i : Nat} {y : Int} (h : (l.take k).reverse[i]? = some y) (hk : k ≤ l.length) : l.length - k + i < l.length ∧ (l.reverse.map (Value.int .i64))[l.length - k + i]? = some (.int .i64 y) := by
 have hi : i < (l.take k).reverse.length := (List.getElem?_eq_some_iff.1 h).1
 rw [List.length_reverse, List.length_take, Nat.min_eq_left hk] at hi
 refine ⟨by omega, ?_⟩
 rw [List.getElem?_reverse (by rw [List.length_take, Nat.min_eq_left hk]; exact hi), List.length_take, Nat.min_eq_left hk, List.getElem?_take, if_pos (by omega)] at h
 rw [List.getElem?_map, List.getElem?_reverse (by omega), show l.length - 1 - (l.length - k + i) = k - 1 - i by omega, h]
 rfl
def Vm.Pd (W : World) (tg : Nat → Nat) (d : Nat) (a : Option Addr) (l : List Int) : Prop := ∀ (i : Nat) (y : Int), l[i]? = some y → ∃ b o, a = some ⟨b, o, none⟩ ∧ b < W.heap.size ∧ tg b = 11 + 4 * d ∧ W.cell? ⟨b, o + i, none⟩ = some (.int .i64 y)
theorem vpopAll_any {w0 W : World} {tg : Nat → Nat} {N d : Nat} {ss : List (List Int)} {f : Vd.F} {z : Vm.Z} (h : Vm.Fr w0 W tg N d ss f z) (k : Nat) (hk : k ≤ f.pile.length) (hl : f.pile.length ≤ 1000) :
  Calls Tryz.prog 109 #[.pointer (some ⟨z.bf, 0, none⟩), .int .i64 (k : Nat)] W fun r W' => ∃ a cc z', r = .returned (.slice a k cc) ∧ k ≤ cc ∧ z'.bf = z.bf ∧ Vm.Fr w0 W' tg N d ss { f with pile := f.pile.drop k } z' ∧ Vm.K (Vm.Cf d) tg tg W W' ∧ Vm.Pd W' tg d a (f.pile.take k).reverse := by
 have kf := h.box.fz 3
 have k3 := h.box.at_ 3 _ rfl
 have hlt := h.box.lt
 rcases h.form with ⟨h1, h2⟩ | ⟨g, cp, h1, h2, h3⟩
 · have hk0 : k = 0 := by rw [h2] at hk; simpa using hk
   subst hk0
   have HP := hide (h.popped [] f.pile rfl (.slice none 0 0) (.inl ⟨h1.symm, rfl⟩))
   rw [h1] at k3
   clear h h1 h2 hk hl
   go_enter Tryz.func109, Tryz.ntmps109
   go_wp2_with fail
   go_ret
   refine ⟨none, 0, _, rfl, Nat.le_refl _, ?_, (unhide HP).1, (unhide HP).2, ?_⟩
   · rfl
   · intro i y hi
     simp at hi
 · obtain ⟨r, hr⟩ : ∃ r, f.pile.length = r + k := ⟨f.pile.length - k, by omega⟩
   have hdl : (f.pile.drop k).length = r := by rw [List.length_drop]; omega
   have HP := hide (h.popped (f.pile.take k) (f.pile.drop k) (List.take_append_drop k f.pile).symm (.slice (some ⟨g, 0, none⟩) r cp) (.inr ⟨g, _, cp, h1, by rw [hdl]⟩))
   have hgt := h.tp g (by rw [h1]; rfl)
   have hgl := (h.pr.lt g (by rw [h1]; rfl)).2
   have hgb : g ≠ z.bf := by
    rintro rfl
    rw [h.tb] at hgt
    omega
   have HC := hide (show ∀ (i : Nat) (y : Int), (f.pile.take k).reverse[i]? = some y → (W.setCell ⟨z.bf, 3, none⟩ (.slice (some ⟨g, 0, none⟩) r cp)).cell? ⟨g, r + i, none⟩ = some (.int .i64 y) from fun i y hi => by
    obtain ⟨e1, e2⟩ := Vm.rev_at hi hk
    have hp := h.pr
    rw [h1] at hp
    rw [Xr.cell_kept (Xr.set_other hgb) (r + i), hp.cellAt (r + i) (by omega), show r + i = f.pile.length - k + i by omega]
    exact e2)
   rw [h1, hr] at k3
   rw [hr] at h2 hl
   have hw1 : IntKind.i64.wrap (((r + k : Nat) : Int) - (k : Int)) = (r : Int) := by rw [IntKind.wrap_i64]; omega
   have hcm : (cp : Int) ≤ 140737488355328 * 65536 := by unfold maxLen at h3; omega
   have hkl : 0 < k → r < cp := fun _ => by omega
   have HL := hide (show k ≠ 0 ∨ ∀ (i : Nat) (y : Int), ¬ (f.pile.take k).reverse[i]? = some y from by
    by_cases h0 : k = 0
    · subst h0
      exact .inr (fun i y hi => by simp at hi)
    · exact .inl h0)
   clear h h1 hk hdl hr h3
   have g1 : (0 : Int) ≤ (r : Int) := by omega
   have g2 : (r : Int) ≤ ((r + k : Nat) : Int) := by omega
   have g3 : (r : Int) ≤ (cp : Int) := by omega
   have g4 : ((r + k : Nat) : Int) ≤ (cp : Int) := by omega
   by_cases hcp : r = cp
   · subst hcp
     have hk0 : k = 0 := by omega
     subst hk0
     go_enter Tryz.func109, Tryz.ntmps109
     go_wp2_with fail
     go_ret
     refine ⟨_, 0, _, rfl, Nat.le_refl _, ?_, (unhide HP).1, (unhide HP).2, ?_⟩
     · rfl
     · intro i y hi
       rcases unhide HL with h0 | h0
       · exact absurd rfl h0
       · exact absurd hi (h0 i y)
   · have g5 : r < cp := by omega
     have g6 : (r : Int) < (cp : Int) := by omega
     have e1 : r + k - r = k := by omega
     go_enter Tryz.func109, Tryz.ntmps109
     go_wp2_with fail
     go_ret
     refine ⟨some ⟨g, r, none⟩, cp - r, _, ?_, by omega, ?_, (unhide HP).1, (unhide HP).2, ?_⟩
     · simp
     · rfl
     · intro i y hi
       exact ⟨g, r, rfl, by rw [World.size_setCell]; exact hgl, hgt, (unhide HC) i y hi⟩
theorem vpop_any {w0 W : World} {tg : Nat → Nat} {N d : Nat} {ss : List (List Int)} {f : Vd.F} {z : Vm.Z} (h : Vm.Fr w0 W tg N d ss f z) {n : Int} {q : List Int} (hp : f.pile = n :: q) (hl : f.pile.length ≤ 1000) :
  Calls Tryz.prog 86 #[.pointer (some ⟨z.bf, 0, none⟩)] W fun r W' => ∃ z', r = .returned (.int .i64 n) ∧ z'.bf = z.bf ∧ Vm.Fr w0 W' tg N d ss { f with pile := q } z' ∧ Vm.K (Vm.Cf d) tg tg W W' := by
 have hd := vpopAll_any h 1 (by rw [hp]; simp) hl
 rw [hp] at hd
 have HD := hide hd
 clear hd h hp hl
 go_enter Tryz.func86, Tryz.ntmps86
 go_wp2_with fail
 refine (unhide HD).mono ?_
 rintro r w1 ⟨a, cc, z', rfl, hcc, hz, hf, hk, hpd⟩
 obtain ⟨b, o, rfl, hb, _, hc⟩ := hpd 0 n rfl
 rw [Nat.add_zero] at hc
 have HF := hide hf
 have HK := hide hk
 have HZ := hide hz
 clear hf hk hpd hz
 go_wp2_with fail
 go_ret
 exact ⟨z', rfl, unhide HZ, unhide HF, unhide HK⟩
end Go.Proofs.YtpfogjplnodacaaGreat
namespace Go.Proofs.YtpfogjplnodacaaGreat
open Go.RowKit Go.Maps
set_option linter.unusedVariables false
theorem Tryz.keyedV : Keyed Tryz.prog 3 := int_keyed Tryz.underlying3
theorem Tryz.zeroIntsV (w : World) : (zeroValue 23).run Tryz.prog w = .ok (.slice none 0 0) w := by kernel_rfl
theorem Vm.key_of {v : Nat} (hv : v ≤ 35184372088832) : keyOf Tryz.prog 3 (.int .i64 (v : Nat)) = some (.int .i64 (v : Nat)) := keyOf_int_mk Tryz.underlying3 (by simp [Lit.wf, IntKind.min, IntKind.max, IntKind.signed, IntKind.bits]; omega)
theorem Vm.look {W : World} {b n : Nat} {D : DataW Unit} (h : W.ownsMap Tryz.prog 3 Vm.R b n D) {v : Nat} (hv : v ≤ 35184372088832) : ∃ u ps, (Instr.lookup 88 (.map (some b)) (.int .i64 (v : Nat)) false).run Tryz.prog W = .ok u W ∧ Vm.R u = some (D.atKey (.int .i64 (v : Nat)) .nil, ps) :=
 h.lookup Tryz.keyedV Tryz.underlying88 (Tryz.zeroIntsV W) Vm.R_nil (Vm.key_of hv)
section
variable {w0 W : World} {tg : Nat → Nat} {N d : Nat} {ss : List (List Int)} {f : Vd.F} {z : Vm.Z}
theorem Vm.Fr.cells {W2 w6 : World} (h : Vm.Fr w0 W tg N d ss f z) (h0 : w0.heap.size ≤ W.heap.size) {v : Nat} {l : List Int} (hv : f.fr.vs[v]? = some l) (hm : z.mv v = none) (hb : Below W.heap.size W W2) (hn : W2.heap[W.heap.size]? = some (Obj.cells (madeCells #[.int .i64 0] l.length) 3)) (hg : W2.grownBy w6 (some z.mb)) (ho : w6.ownsMap Tryz.prog 3 Vm.R z.mb (z.nm + 1) (z.D.put (.int .i64 (v : Nat)) (Vm.enc W.heap.size l.length l.length))) :
  Vm.Fr w0 w6 (fun q => if q = W.heap.size then 13 + 4 * d else tg q) (N + 1) d ss f { z with nm := z.nm + 1, D := z.D.put (.int .i64 (v : Nat)) (Vm.enc W.heap.size l.length l.length), mv := fun u => if u = v then some (W.heap.size, l.length) else z.mv u } ∧ Vm.K (Vm.Cv d) tg (fun q => if q = W.heap.size then 13 + 4 * d else tg q) W w6 := by
 have hre : ∀ q, q < W.heap.size → (if q = W.heap.size then 13 + 4 * d else tg q) = tg q := fun q hq => if_neg (by omega)
 have k1 : Vm.K (fun j => j = 12 + 4 * d) tg (fun q => if q = W.heap.size then 13 + 4 * d else tg q) W w6 := ((Vm.K.below hb).grown hg (fun q hq _ => by cases hq; exact h.tm)).re hre
 have hml := h.mp.lt
 have hnl : W.heap.size < W2.heap.size := (Array.getElem?_eq_some_iff.1 hn).1
 refine ⟨⟨h.hb, (k1.tgk _ h.box.lt).trans h.tb, h.box.kept k1.size (k1.blk _ h.box.lt (by rw [h.tb]; omega)), Xr.ow_kept h.pr (fun q hq => k1.blk q (h.pr.lt q hq).2 (by rw [h.tp q hq]; omega)), fun q hq => (k1.tgk q (h.pr.lt q hq).2).trans (h.tp q hq), h.rs, h.hm, (k1.tgk _ hml).trans h.tm, ho, by have := h.few; show z.nm + 1 ≤ N + 1; omega, fun u m hu => ?_, ?_, fun u b cc hu => ?_⟩, k1.mono (fun j hj => by unfold Vm.Cv; omega)⟩
 · have hau := h.at_ u m hu
   by_cases e : u = v
   · subst e
     rw [hv] at hu
     cases hu
     rw [hm] at hau
     dsimp only
     rw [if_pos rfl, atKey_put_same h.mp.isMap (by trivial)]
     refine ⟨rfl, h0, if_pos rfl, Nat.le_refl _, ?_⟩
     have hw : w6.heap[W.heap.size]? = some (Obj.cells (madeCells #[.int .i64 0] l.length) 3) := (hg.block _ hnl (by intro e; simp at e; omega)).trans hn
     have hx := Vm.Bx.new hw
     rw [toList_madeCells_one] at hx
     rw [hau.2, List.map_replicate]
     first | exact hx | (rw [List.length_replicate]; exact hx)
   · dsimp only
     rw [if_neg e, atKey_put_other (by intro e2; simp at e2; omega)]
     exact hau.keep k1 (by omega)
 · intro u u' b cc cc' h1 h2
   dsimp only at h1 h2
   have hold : ∀ y b cc, z.mv y = some (b, cc) → b < W.heap.size := fun y b cc hy => by
    have := h.at_ y _ (List.getElem?_eq_getElem (h.mlt y b cc hy))
    rw [hy] at this
    exact this.2.2.2.2.lt
   split at h1
   · rename_i e1
     cases h1
     split at h2
     · rename_i e2
       omega
     · have := hold _ _ _ h2
       omega
   · split at h2
     · cases h2
       have := hold _ _ _ h1
       omega
     · exact h.inj u u' b cc cc' h1 h2
 · dsimp only at hu
   split at hu
   · rename_i e
     rw [e]
     exact (List.getElem?_eq_some_iff.1 hv).1
   · exact h.mlt u b cc hu
end
theorem vcells_any {w0 W : World} {tg : Nat → Nat} {N d : Nat} {ss : List (List Int)} {f : Vd.F} {z : Vm.Z} (h : Vm.Fr w0 W tg N d ss f z) (hbel : Below w0.heap.size w0 W) {v : Nat} {l : List Int} {y : Int} (hv : f.fr.vs[v]? = some l) (hy : (ss[f.fn]?.getD [])[v]? = some y) (hl : l.length = (max y 1).toNat) (h8 : 0 ≤ y ∧ y ≤ 8) (hN : N ≤ 1000000) :
  Calls Tryz.prog 82 #[.pointer (some ⟨z.bf, 0, none⟩), .int .i64 (v : Nat)] W fun r W' => ∃ b cc, r = .returned (.slice (some ⟨b, 0, none⟩) l.length cc) ∧ ∃ tg' z', z'.bf = z.bf ∧ z'.mv v = some (b, cc) ∧ Vm.Fr w0 W' tg' (N + 1) d ss f z' ∧ Vm.K (Vm.Cv d) tg tg' W W' := by
 have hrs := h.rs
 obtain ⟨b, o, had, hb, hc⟩ := hrs.at_ v y hy
 have hvl : v ≤ 35184372088832 := by
  have h1 := hrs.few
  have h2 := (List.getElem?_eq_some_iff.1 hy).1
  omega
 have hlen : z.sa.len = (ss[f.fn]?.getD []).length := hrs.len
 have hvlen : v < (ss[f.fn]?.getD []).length := (List.getElem?_eq_some_iff.1 hy).1
 have k4 : W.cell? ⟨z.bf, 4, none⟩ = some (.slice (some ⟨b, o, none⟩) z.sa.len z.sa.cap) := by rw [← had]; exact h.box.at_ 4 _ rfl
 have k5 := h.box.at_ 5 _ rfl
 have p0 := (hbel.cell (p := ⟨b, o + v, none⟩) hb).trans hc
 obtain ⟨u, ps, hrun, hR⟩ := Vm.look h.mp hvl
 have q22 : ∀ (w : World) (a : Option Addr) (n c n' c' : Nat), (binOp .eql 23 (.slice a n c) (.slice none n' c')).run Tryz.prog w = .ok (.bool a.isNone) w := fun w a n c n' c' => Lib.run_eql_slice_nil w _ _ a n c n' c' Tryz.underlying23
 have hat := h.at_ v l hv
 cases hm : z.mv v with
 | some q =>
  obtain ⟨b1, c1⟩ := q
  rw [hm] at hat
  obtain ⟨a1, a2, a3, a4, a5⟩ := hat
  rw [a1] at hR
  have hu := Vm.R_inv hR
  subst hu
  have HF := hide (h.more (Nat.le_succ N))
  have HM := hide hm
  generalize l.length = ln at *
  clear h hrs hm a1 a2 a3 a4 a5 hR hc hy hv hl
  go_enter Tryz.func82, Tryz.ntmps82
  go_wp2_with fail
  go_ret
  exact ⟨b1, c1, rfl, tg, z, rfl, unhide HM, unhide HF, Vm.K.refl⟩
 | none =>
  rw [hm] at hat
  rw [hat.1] at hR
  have hu := Vm.R_inv0 hR
  subst hu
  have h0 := hbel.size
  have hsb : l.length ≤ 100 := by omega
  have hmk : ∀ V : World, (Instr.makeSlice 23 (.int .i64 (if y < 1 then 1 else y)) (.int .i64 (if y < 1 then 1 else y))).run Tryz.prog V = .ok (.slice (some ⟨V.heap.size, 0, none⟩) l.length l.length) (V.alloc (.cells (madeCells #[.int .i64 0] l.length) 3)) := by
   intro V
   have hmx : (if y < 1 then 1 else y) = ((l.length : Nat) : Int) := by rw [hl]; split <;> omega
   rw [hmx]
   exact run_make_row' (P := Tryz.prog) 23 3 (.int .i64 0) 8 Tryz.underlying23 Tryz.infoI3 rfl .i64 .i64 l.length (by omega) (by omega) V
  have hb1 : Below W.heap.size W (W.alloc (Obj.cells (madeCells #[.int .i64 0] l.length) 3)).drew := ((Below.refl W.heap.size W).alloc (Nat.le_refl _) _).drew
  have hn1 : (W.alloc (Obj.cells (madeCells #[.int .i64 0] l.length) 3)).drew.heap[W.heap.size]? = some (Obj.cells (madeCells #[.int .i64 0] l.length) 3) := heap_alloc_new W _
  have hmp1 : (W.alloc (Obj.cells (madeCells #[.int .i64 0] l.length) 3)).drew.ownsMap Tryz.prog 3 Vm.R z.mb z.nm z.D := Vm.map_kept h.mp (hb1.block _ h.mp.lt)
  obtain ⟨w6, hrun2, hown, hgr⟩ := hmp1.update Tryz.keyedV Tryz.underlying88 (by have := h.few; unfold maxLen; omega) (Vm.key_of hvl) (Vm.R_enc W.heap.size l.length l.length)
  have HF := hide (h.cells h0 hv hm hb1 hn1 hgr hown)
  obtain ⟨u2, ps2, hrun3, hR2⟩ := Vm.look hown hvl
  rw [atKey_put_same h.mp.isMap (by trivial)] at hR2
  have hu2 := Vm.R_inv hR2
  subst hu2
  have hbk : w6.heap[z.bf]? = W.heap[z.bf]? := (hgr.block z.bf (by have := h.box.lt; have := hb1.size; omega) (by intro e; have h1 := h.tb; have h2 := h.tm; simp at e; rw [e] at h1; omega)).trans (hb1.block z.bf h.box.lt)
  have m5 := (Xr.cell_kept hbk 5).trans k5
  have n5 : (W.alloc (Obj.cells (madeCells #[.int .i64 0] l.length) 3)).cell? ⟨z.bf, 5, none⟩ = some (.map (some z.mb)) := (Xr.cell_kept (hb1.block z.bf h.box.lt) 5).trans k5
  have n4 : (W.alloc (Obj.cells (madeCells #[.int .i64 0] l.length) 3)).cell? ⟨z.bf, 4, none⟩ = some (.slice (some ⟨b, o, none⟩) z.sa.len z.sa.cap) := (Xr.cell_kept (hb1.block z.bf h.box.lt) 4).trans k4
  generalize l.length = ln at *
  clear h hrs hat hm hR hc hy hv hl hb1 hn1 hmp1 hown hgr hR2 hbk
  have g1 : (0 : Int) ≤ (v : Int) := by omega
  have g2 : (v : Int) < (z.sa.len : Int) := by omega
  go_enter Tryz.func82, Tryz.ntmps82
  go_upto_region 2 with fail
  go_region_law (fail)
  all_goals
   generalize (if y < 1 then 1 else y) = mx at *
   go_wp2_with fail
   go_ret
   refine ⟨W.heap.size, ln, rfl, _, _, ?_, ?_, (unhide HF).1, (unhide HF).2⟩
   · rfl
   · exact if_pos rfl
theorem vplain_any {w0 W : World} {tg : Nat → Nat} {N d : Nat} {ss : List (List Int)} {f : Vd.F} {z : Vm.Z} (h : Vm.Fr w0 W tg N d ss f z) (hbel : Below w0.heap.size w0 W) (v : Int) (hv0 : 0 ≤ v) :
  Calls Tryz.prog 77 #[.pointer (some ⟨z.bf, 0, none⟩), .int .i64 v] W fun r W' => r = .returned (.bool (Vd.plain (ss[f.fn]?.getD []) v)) ∧ W' = W := by
 have hrs := h.rs
 have k4 := h.box.at_ 4 _ rfl
 have hlen : z.sa.len = (ss[f.fn]?.getD []).length := hrs.len
 have hcap := hrs.cap
 unfold Vd.plain
 generalize ss[f.fn]?.getD [] = sz at *
 obtain ⟨u, rfl⟩ : ∃ u : Nat, v = u := ⟨v.toNat, by omega⟩
 rw [Int.toNat_natCast]
 by_cases hlt : u < sz.length
 · obtain ⟨y, hy⟩ : ∃ y, sz[u]? = some y := ⟨_, List.getElem?_eq_getElem hlt⟩
   obtain ⟨b, o, had, hb, hc⟩ := hrs.at_ u y hy
   have p0 := (hbel.cell (p := ⟨b, o + u, none⟩) hb).trans hc
   rw [hy]
   have k4' : W.cell? ⟨z.bf, 4, none⟩ = some (.slice (some ⟨b, o, none⟩) z.sa.len z.sa.cap) := by rw [← had]; exact k4
   have g2 : (u : Int) < (z.sa.len : Int) := by omega
   have g3 : decide ((u : Int) < (z.sa.len : Int)) = true := decide_eq_true g2
   clear h hrs k4 hy hc hlen
   generalize z.sa.len = ln at *
   have HR := hide (show (some y == some (0 : Int)) = (y == 0) from rfl)
   rw [unhide HR]
   go_enter Tryz.func77, Tryz.ntmps77
   go_wp2_with fail
   go_ret
   exact ⟨rfl, rfl⟩
 · rw [List.getElem?_eq_none_iff.2 (by omega)]
   have g2 : ¬ (u : Int) < (z.sa.len : Int) := by omega
   have g3 : decide ((u : Int) < (z.sa.len : Int)) = false := decide_eq_false g2
   clear h hrs hlen
   generalize z.sa.len = ln at *
   go_enter Tryz.func77, Tryz.ntmps77
   go_wp2_with fail
   go_ret
   exact ⟨rfl, rfl⟩
theorem varr_any {w0 W : World} {tg : Nat → Nat} {N d : Nat} {ss : List (List Int)} {f : Vd.F} {z : Vm.Z} (h : Vm.Fr w0 W tg N d ss f z) (hbel : Below w0.heap.size w0 W) (v : Int) (hv0 : 0 ≤ v) :
  Calls Tryz.prog 78 #[.pointer (some ⟨z.bf, 0, none⟩), .int .i64 v] W fun r W' => r = .returned (.bool (Vd.arr (ss[f.fn]?.getD []) v)) ∧ W' = W := by
 have hrs := h.rs
 have k4 := h.box.at_ 4 _ rfl
 have hlen : z.sa.len = (ss[f.fn]?.getD []).length := hrs.len
 have hcap := hrs.cap
 unfold Vd.arr Vd.plain
 generalize ss[f.fn]?.getD [] = sz at *
 obtain ⟨u, rfl⟩ : ∃ u : Nat, v = u := ⟨v.toNat, by omega⟩
 rw [Int.toNat_natCast]
 by_cases hlt : u < sz.length
 · obtain ⟨y, hy⟩ : ∃ y, sz[u]? = some y := ⟨_, List.getElem?_eq_getElem hlt⟩
   obtain ⟨b, o, had, hb, hc⟩ := hrs.at_ u y hy
   have p0 := (hbel.cell (p := ⟨b, o + u, none⟩) hb).trans hc
   rw [hy, decide_eq_true hlt]
   have k4' : W.cell? ⟨z.bf, 4, none⟩ = some (.slice (some ⟨b, o, none⟩) z.sa.len z.sa.cap) := by rw [← had]; exact k4
   have g2 : (u : Int) < (z.sa.len : Int) := by omega
   have g3 : decide ((u : Int) < (z.sa.len : Int)) = true := decide_eq_true g2
   clear h hrs k4 hy hc hlen
   generalize z.sa.len = ln at *
   have HR := hide (show (true && !(some y == some (0 : Int))) = (y != 0) from rfl)
   rw [unhide HR]
   go_enter Tryz.func78, Tryz.ntmps78
   go_wp2_with fail
   go_ret
   exact ⟨rfl, rfl⟩
 · rw [decide_eq_false hlt]
   have g2 : ¬ (u : Int) < (z.sa.len : Int) := by omega
   have g3 : decide ((u : Int) < (z.sa.len : Int)) = false := decide_eq_false g2
   clear h hrs hlen
   generalize z.sa.len = ln at *
   have HR := hide (show (false && !(sz[u]? == some (0 : Int))) = false from rfl)
   rw [unhide HR]
   go_enter Tryz.func78, Tryz.ntmps78
   go_wp2_with fail
   go_ret
   exact ⟨rfl, rfl⟩
end Go.Proofs.YtpfogjplnodacaaGreat
