/-
  VEn, VCl, VRd. By the verifier.
-/
import Derived.Test.YtpfogjplnodacaaGreatLI
set_option maxRecDepth 100000
set_option maxHeartbeats 6400000
namespace Go.Proofs.YtpfogjplnodacaaGreat
open Go.RowKit Go.Maps
set_option linter.unusedVariables false
theorem Tryz.infoFp : (Tryz.prog.info? 50).map (fun i => (i.zero, i.size, i.bytes)) = some (some (.pointer none), 1, 8) := by kernel_rfl
section
variable {w0 W : World} {tg : Nat → Nat} {N d bm : Nat} {c : Vm.Cx} {t : Pg.Sl} {ss : List (List Int)} {s : Xr.S} {md : Nat} {rf ev : Value} {ps : List Value}
theorem Vm.G.entered {W2 w6 : World} (h : Vm.G w0 W tg bm c t s md rf ev ps) (hb : Below W.heap.size W W2) (hg : W2.grownBy w6 rf.ownBlock) (p : Value) (g cc : Nat)
  (ho : w6.ownsRow w0.heap.size 50 1 (.slice (some ⟨g, 0, none⟩) (ps.length + 1) cc) (ps.length + 1) (ps ++ [p])) (hat : rf.ownBlock = some g ∨ g = W2.heap.size) :
  Vm.G w0 (w6.setCell ⟨bm, 6, none⟩ (.slice (some ⟨g, 0, none⟩) (ps.length + 1) cc)) (fun q => if q = g then 2 else tg q) bm c t s md (.slice (some ⟨g, 0, none⟩) (ps.length + 1) cc) ev (ps ++ [p]) ∧ Vm.K (fun j => j < 3) tg (fun q => if q = g then 2 else tg q) W (w6.setCell ⟨bm, 6, none⟩ (.slice (some ⟨g, 0, none⟩) (ps.length + 1) cc)) := by
 have hre := Vm.retag (W := W) (W2 := W2) h.trf hb.size hat
 have k1 : Vm.K (fun j => j = 2) tg (fun q => if q = g then 2 else tg q) W w6 := ((Vm.K.below hb).grown hg (fun q hq _ => h.trf q hq)).re hre
 have k2 : Vm.K (fun j => j = 0 ∨ j = 2) tg (fun q => if q = g then 2 else tg q) W (w6.setCell ⟨bm, 6, none⟩ (.slice (some ⟨g, 0, none⟩) (ps.length + 1) cc)) := (k1.mono (fun j hj => .inr hj)).set bm 6 _ (fun _ => .inl h.tb)
 have hgb : g ≠ bm := by
  rintro rfl
  have := hre g h.box.lt
  rw [if_pos rfl, h.tb] at this
  exact absurd this (by decide)
 refine ⟨⟨h.belK k2 (by decide), h.loK k2, h.hbm, (k2.tgk bm h.box.lt).trans h.tb, (h.box.kept k1.size (k1.blk bm h.box.lt (by rw [h.tb]; decide))).set 6 _, h.inp, Xr.ow_kept h.evr (fun q hq => k2.blk q (h.evr.lt q hq).2 (by rw [h.tev q hq]; decide)), fun q hq => (k2.tgk q (h.evr.lt q hq).2).trans (h.tev q hq), ?_, ?_⟩, k2.mono (fun j hj => by omega)⟩
 · rw [List.length_append]
   refine Xr.ow_kept ho (fun q hq => ?_)
   cases hq
   exact Xr.set_other hgb
 · intro q hq
   cases hq
   exact if_pos rfl
theorem Vm.Fr.new {W1 : World} {fn pc num deep : Nat} {sa : Pg.Sl} (h0 : w0.heap.size ≤ W.heap.size) (hm : W1.heap[W.heap.size]? = some (.map #[] 0)) (hb : W1.heap[W.heap.size + 1]? = some (.cells #[.int .i64 (num : Nat), .int .i64 (-1), .int .i64 (pc : Nat), .slice none 0 0, .slice sa.ad sa.len sa.cap, .map (some W.heap.size)] 90 (0, 0))) (hrs : Pg.RN w0 sa (ss[fn]?.getD [])) (h1 : tg W.heap.size = 12 + 4 * d) (h2 : tg (W.heap.size + 1) = 10 + 4 * d) :
  Vm.Fr w0 W1 tg N d ss ⟨Xr.newF num deep (ss[fn]?.getD []), fn, pc, []⟩ ⟨W.heap.size + 1, .slice none 0 0, sa, W.heap.size, 0, .map [], fun _ => none⟩ := by
 refine ⟨by show _ ≤ W.heap.size + 1; omega, h2, Vm.Bx.new hb, ⟨rfl, .inl ⟨rfl, rfl⟩⟩, fun q hq => (by cases hq), hrs, h0, h1, ?_, Nat.zero_le _, fun v l hv => ⟨rfl, ?_⟩, fun v v' b c c' h => (by cases h), fun v b c h => (by cases h)⟩
 · have hmd := World.ownsMap_made (H := Unit) W Tryz.prog 3 Vm.R
   exact Vm.map_kept hmd (hm.trans (heap_alloc_new W _).symm)
 · have hv2 : ((ss[fn]?.getD []).map fun n => List.replicate (max n 1).toNat (0 : Int))[v]? = some l := hv
   rw [List.getElem?_map] at hv2
   cases hz : (ss[fn]?.getD [])[v]? with
   | none => rw [hz] at hv2; cases hv2
   | some y =>
    rw [hz] at hv2
    have : l = List.replicate (max y 1).toNat 0 := by simpa using hv2.symm
    rw [this, List.length_replicate]
end
def Vm.En (w0 W : World) (tg : Nat → Nat) (N bm : Nat) (c : Vm.Cx) (t : Pg.Sl) (s : Xr.S) (md : Nat) (ev : Value) (ss : List (List Int)) (ms : List Vm.X) (f : Vd.F) (b : Nat) (W' : World) : Prop := ∃ tg' z' rf', z'.bf = b ∧ Vm.G w0 W' tg' bm c t s (md + 1) rf' ev (Vm.ps ((f, z') :: ms)) ∧ Vm.Frs w0 W' tg' N ss ((f, z') :: ms) ∧ Vm.K (fun j => j < 3) tg tg' W W'
theorem venter_any {w0 W : World} {tg : Nat → Nat} {N bm : Nat} {c : Vm.Cx} {t : Pg.Sl} {ss : List (List Int)} {s : Xr.S} {md : Nat} {ms : List Vm.X} {rf ev : Value} {li : List Kd.I} {fs : List Int} (hco : Kd.RCo w0 c.si c.sf c.sz li fs ss) (hc : Vd.Cd li fs ss) (hg : Vm.G w0 W tg bm c t s md rf ev (Vm.ps ms)) (hfr : Vm.Frs w0 W tg N ss ms) (hms : ms.length ≤ 100) (hmd : md ≤ 1000000) (deep : Nat) {q : Nat} (hq : q < ss.length) :
  Calls Tryz.prog 17 #[.pointer (some ⟨bm, 0, none⟩), .int .i64 (q : Nat)] W fun rr W' => ∃ b, rr = .returned (.pointer (some ⟨b, 0, none⟩)) ∧ Vm.En w0 W tg N bm c t s md ev ss ms (⟨Xr.newF md deep (ss[q]?.getD []), q, (fs[q]?.getD 0).toNat, []⟩ : Vd.F) b W' := by
 have hlen := hc.len
 have hqf : q < fs.length := by omega
 obtain ⟨y, hy⟩ : ∃ y, fs[q]? = some y := ⟨_, List.getElem?_eq_getElem hqf⟩
 have hy0 := (hc.fst y (List.mem_of_getElem? hy)).1
 obtain ⟨pc, rfl⟩ : ∃ pc : Nat, y = pc := ⟨y.toNat, by omega⟩
 obtain ⟨b1, o1, ha1, hb1, hc1⟩ := hco.fst.at_ q _ hy
 obtain ⟨l, hl⟩ : ∃ l, ss[q]? = some l := ⟨_, List.getElem?_eq_getElem hq⟩
 obtain ⟨b2, o2, sa, ha2, hb2, hc2, hrs⟩ := hco.szs.at_ q l hl
 have hbel := hg.bel
 have k5 := hg.box.at_ 5 _ rfl
 have k1 : W.cell? ⟨bm, 1, none⟩ = some (.slice (some ⟨b1, o1, none⟩) c.sf.len c.sf.cap) := by rw [← ha1]; exact hg.box.at_ 1 _ rfl
 have k2 : W.cell? ⟨bm, 2, none⟩ = some (.slice (some ⟨b2, o2, none⟩) c.sz.len c.sz.cap) := by rw [← ha2]; exact hg.box.at_ 2 _ rfl
 have p1 := (hbel.cell (p := ⟨b1, o1 + q, none⟩) hb1).trans hc1
 have p2 := (hbel.cell (p := ⟨b2, o2 + q, none⟩) hb2).trans hc2
 have hl1 : c.sf.len = fs.length := hco.fst.len
 have hl2 : c.sz.len = ss.length := hco.szs.len
 have u0 : (0 : Int) ≤ (q : Int) := by omega
 have u1 : (q : Int) < (c.sf.len : Int) := by omega
 have u2 : (q : Int) < (c.sz.len : Int) := by omega
 have u3 : q < c.sf.len := by omega
 have u4 : q < c.sz.len := by omega
 have hbml := hg.box.lt
 have hb1l : b1 < W.heap.size := by have := hbel.size; omega
 have hb2l : b2 < W.heap.size := by have := hbel.size; omega
 have HMB := hide (show ∀ V, Below W.heap.size W V → V.cell? ⟨bm, 5, none⟩ = some (.int .i64 (md : Nat)) ∧ V.cell? ⟨bm, 1, none⟩ = some (.slice (some ⟨b1, o1, none⟩) c.sf.len c.sf.cap) ∧ V.cell? ⟨bm, 2, none⟩ = some (.slice (some ⟨b2, o2, none⟩) c.sz.len c.sz.cap) ∧ V.cell? ⟨b1, o1 + q, none⟩ = some (.int .i64 (pc : Nat)) ∧ V.cell? ⟨b2, o2 + q, none⟩ = some (.slice sa.ad sa.len sa.cap) from fun V hV => ⟨(Xr.cell_kept (hV.block bm hbml) 5).trans k5, (Xr.cell_kept (hV.block bm hbml) 1).trans k1, (Xr.cell_kept (hV.block bm hbml) 2).trans k2, (Xr.cell_kept (hV.block b1 hb1l) _).trans p1, (Xr.cell_kept (hV.block b2 hb2l) _).trans p2⟩)
 have HM0 := hide ((unhide HMB) _ (Below.refl W.heap.size W).drew)
 rw [hy]
 show Calls _ _ _ _ fun rr W' => ∃ b, rr = .returned (.pointer (some ⟨b, 0, none⟩)) ∧ Vm.En w0 W tg N bm c t s md ev ss ms (⟨Xr.newF md deep (ss[q]?.getD []), q, pc, []⟩ : Vd.F) b W'
 have hbA := ((Below.refl W.heap.size W).alloc (Nat.le_refl _) (.map #[] 0))
 have hbB := (Below.refl (W.alloc (.map #[] 0)).heap.size (W.alloc (.map #[] 0))).alloc (Nat.le_refl _) (.cells #[.int .i64 (md : Nat), .int .i64 (-1), .int .i64 (pc : Nat), .slice none 0 0, .slice sa.ad sa.len sa.cap, .map (some W.heap.size)] 90 (0, 0))
 have hszA : (W.alloc (.map #[] 0)).heap.size = W.heap.size + 1 := by simp
 have hmA := heap_alloc_new W (.map #[] 0)
 have hmB := (hbB.block W.heap.size (by rw [hszA]; omega)).trans hmA
 have hnB := heap_alloc_new (W.alloc (.map #[] 0)) (.cells #[.int .i64 (md : Nat), .int .i64 (-1), .int .i64 (pc : Nat), .slice none 0 0, .slice sa.ad sa.len sa.cap, .map (some W.heap.size)] 90 (0, 0))
 rw [hszA] at hnB
 have hB2 := hbA.trans (hbB.mono hbA.size)
 have kT : Vm.K (fun _ => False) tg (fun x => if x = W.heap.size then 12 + 4 * ms.length else if x = W.heap.size + 1 then 10 + 4 * ms.length else tg x) W ((W.alloc (.map #[] 0)).alloc (.cells #[.int .i64 (md : Nat), .int .i64 (-1), .int .i64 (pc : Nat), .slice none 0 0, .slice sa.ad sa.len sa.cap, .map (some W.heap.size)] 90 (0, 0))).drew := (Vm.K.below hB2.drew).re (fun x hx => by rw [if_neg (by omega), if_neg (by omega)])
 have hG1 := hg.keep kT (fun _ _ => id)
 have hF1 := hfr.keep kT (fun _ _ _ => id)
 have hN1 : Vm.Fr w0 ((W.alloc (.map #[] 0)).alloc (.cells #[.int .i64 (md : Nat), .int .i64 (-1), .int .i64 (pc : Nat), .slice none 0 0, .slice sa.ad sa.len sa.cap, .map (some W.heap.size)] 90 (0, 0))).drew (fun x => if x = W.heap.size then 12 + 4 * ms.length else if x = W.heap.size + 1 then 10 + 4 * ms.length else tg x) N ms.length ss ⟨Xr.newF md deep (ss[q]?.getD []), q, pc, []⟩ ⟨W.heap.size + 1, .slice none 0 0, sa, W.heap.size, 0, .map [], fun _ => none⟩ := Vm.Fr.new hbel.size hmB hnB (by rw [hl]; exact hrs) (if_pos rfl) (by rw [if_neg (by omega), if_pos rfl])
 have HFE := hide (show (⟨Xr.newF md deep (ss[q]?.getD []), q, pc, []⟩ : Vd.F) = ⟨Xr.newF md deep (ss[q]?.getD []), q, pc, []⟩ from rfl)
 generalize hFF : (⟨Xr.newF md deep (ss[q]?.getD []), q, pc, []⟩ : Vd.F) = F at *
 clear hFF HFE
 have HKT := hide (kT.mono (D := fun j => j < 3) (fun _ => False.elim))
 have HSA := hide (show ∀ V : World, V = ((W.alloc (.map #[] 0)).alloc (.cells #[.int .i64 (md : Nat), .int .i64 (-1), .int .i64 (pc : Nat), .slice none 0 0, .slice sa.ad sa.len sa.cap, .map (some W.heap.size)] 90 (0, 0))).drew → True from fun _ _ => trivial)
 have HBB := hide hB2
 have HBA := hide hbA
 clear hg hfr hc hco hbel k5 k1 k2 p1 p2 hbA hbB hmA hmB hnB hB2 kT hy hl hrs hc1 hc2 hlen
 go_enter Tryz.func17, Tryz.ntmps17
 go_upto_region 1 with fail
 go_cut [5] (fun v V => v = .pointer (some ⟨W.heap.size + 1, 0, none⟩) ∧ V = ((W.alloc (.map #[] 0)).alloc (.cells #[.int .i64 (md : Nat), .int .i64 (-1), .int .i64 (pc : Nat), .slice none 0 0, .slice sa.ad sa.len sa.cap, .map (some W.heap.size)] 90 (0, 0))).drew)
 case first =>
  clear hG1 hF1 hN1
  have hmm := @run_makeMap Tryz.prog
  go_region_held3 (fun V => V.cell? ⟨bm, 5, none⟩ = some (.int .i64 (md : Nat)) ∧ V.cell? ⟨bm, 1, none⟩ = some (.slice (some ⟨b1, o1, none⟩) c.sf.len c.sf.cap) ∧ V.cell? ⟨bm, 2, none⟩ = some (.slice (some ⟨b2, o2, none⟩) c.sz.len c.sz.cap) ∧ V.cell? ⟨b1, o1 + q, none⟩ = some (.int .i64 (pc : Nat)) ∧ V.cell? ⟨b2, o2 + q, none⟩ = some (.slice sa.ad sa.len sa.cap))
   (first | assumption | exact unhide HM0 | exact (unhide HMB) _ (unhide HBA).drew | exact (unhide HMB) _ (unhide HBB).drew)
   (fail)
  all_goals
   go_wp2_with fail
   go_meet
   case rel => exact ⟨rfl, rfl⟩
 case rest =>
  obtain ⟨rfl, rfl⟩ := hcut
  generalize ((W.alloc (.map #[] 0)).alloc (.cells #[.int .i64 (md : Nat), .int .i64 (-1), .int .i64 (pc : Nat), .slice none 0 0, .slice sa.ad sa.len sa.cap, .map (some W.heap.size)] 90 (0, 0))).drew = W1 at *
  generalize (fun x => if x = W.heap.size then 12 + 4 * ms.length else if x = W.heap.size + 1 then 10 + 4 * ms.length else tg x) = tg1 at *
  have k5 := hG1.box.at_ 5 _ rfl
  have y5 := hG1.box.fz 5
  have hw5 : IntKind.i64.wrap ((md : Int) + 1) = ((md + 1 : Nat) : Int) := by rw [IntKind.wrap_i64]; omega
  have hG2 := hG1.set 5 (.int .i64 ((md + 1 : Nat) : Int)) (t' := t) (s' := s) (md' := md + 1) rfl hG1.inp rfl
  have hF2 : Vm.Frs w0 (W1.setCell ⟨bm, 5, none⟩ (.int .i64 ((md + 1 : Nat) : Int))) tg1 N ss ((F, (⟨W.heap.size + 1, .slice none 0 0, sa, W.heap.size, 0, .map [], fun _ => none⟩ : Vm.Z)) :: ms) := Vm.Frs.keep (ms := (F, (⟨W.heap.size + 1, .slice none 0 0, sa, W.heap.size, 0, .map [], fun _ => none⟩ : Vm.Z)) :: ms) ⟨hN1, hF1⟩ hG2.2 (fun j h1 _ => by omega)
  have HKT2 := hide ((unhide HKT).trans hG2.2)
  have hg2 := hG2.1
  have hbl : w0.heap.size ≤ W1.heap.size := hG1.bel.size
  clear HKT hG1 hF1 hN1 hG2
  generalize hW2 : W1.setCell ⟨bm, 5, none⟩ (.int .i64 ((md + 1 : Nat) : Int)) = W2 at *
  have hbl2 : w0.heap.size ≤ W2.heap.size := hg2.bel.size
  have HW2 := hide (show W1.setCell ⟨bm, 5, none⟩ (.int .i64 ((md : Int) + 1)) = W2 by rw [← hW2]; rfl)
  clear hW2
  obtain ⟨ra, rc, hrf⟩ : ∃ a cp, rf = .slice a (Vm.ps ms).length cp := by
   rcases hg2.frr.2 with ⟨h1, h2⟩ | ⟨g, cap, cur, hv, _⟩
   · exact ⟨none, 0, by rw [h2]; exact h1⟩
   · exact ⟨_, _, hv⟩
  subst hrf
  have k6 := hg2.box.at_ 6 _ rfl
  have kf := hg2.box.fz 6
  have hbm2 := hg2.box.lt
  obtain ⟨i0, hi0, hz0, hz1', hz2⟩ := info_of Tryz.infoFp
  have HI := hide hi0
  have HZ0 := hide hz0
  have HZ1 := hide hz1'
  have HZ2 := hide hz2
  have HROW := hide hg2.frr
  have hpl : (Vm.ps ms).length ≤ 100 := by rw [Vm.ps_len]; exact hms
  have HBK := hide (heap_alloc_new W2 (Obj.cells #[.pointer (some ⟨W.heap.size + 1, 0, none⟩)] 50))
  have HBD := hide (show Below W2.heap.size W2 (W2.alloc (Obj.cells #[.pointer (some ⟨W.heap.size + 1, 0, none⟩)] 50)) from (Below.refl _ _).alloc (Nat.le_refl _) _)
  have HAP := hide (fun (w6 : World) (hg : (W2.alloc (Obj.cells #[.pointer (some ⟨W.heap.size + 1, 0, none⟩)] 50)).grownBy w6 (Value.slice ra (Vm.ps ms).length rc).ownBlock) (g cc : Nat) (ho : w6.ownsRow w0.heap.size 50 1 (.slice (some ⟨g, 0, none⟩) ((Vm.ps ms).length + 1) cc) ((Vm.ps ms).length + 1) (Vm.ps ms ++ [.pointer (some ⟨W.heap.size + 1, 0, none⟩)])) (hat : (Value.slice ra (Vm.ps ms).length rc).ownBlock = some g ∨ g = (W2.alloc (Obj.cells #[.pointer (some ⟨W.heap.size + 1, 0, none⟩)] 50)).heap.size) => hg2.entered (unhide HBD) hg _ g cc ho hat)
  have HGB := hide (fun (w6 : World) (hg : (W2.alloc (Obj.cells #[.pointer (some ⟨W.heap.size + 1, 0, none⟩)] 50)).grownBy w6 (Value.slice ra (Vm.ps ms).length rc).ownBlock) => show w6.heap[bm]? = W2.heap[bm]? from (hg.block bm (by simp; omega) (fun e => by have := hg2.trf bm e.symm; rw [hg2.tb] at this; exact absurd this (by decide))).trans ((unhide HBD).block bm hbm2))
  have HF2 := hide hF2
  have HPC := hide (Vm.ps_cons (F, (⟨W.heap.size + 1, .slice none 0 0, sa, W.heap.size, 0, .map [], fun _ => none⟩ : Vm.Z)) ms)
  clear hF2 hg2 hi0 hz0 hz1' hz2
  have hb5 : W1.cell? ⟨bm, 5, none⟩ = some (.int .i64 (md : Nat)) := k5
  go_upto_region 3 with fail
  rw [unhide HW2]
  clear k5 y5 hb5
  generalize Vm.ps ms = xs at *
  generalize xs.length = m at *
  go_wp2_with (at_builtin; refine wpList_append_lies _ (by rfl) _ _ _ (by rfl) w0.heap.size 50 i0 _ 1 8 Tryz.underlying47 (unhide HI) (unhide HZ0) (unhide HZ1) (unhide HZ2) rfl (by omega) (.slice ra m rc) m xs (by rfl) (Pg.ow_below (unhide HROW) (unhide HBD)) ⟨W2.heap.size, 0, none⟩ 1 1 [.pointer (some ⟨W.heap.size + 1, 0, none⟩)] (by rfl) (by rfl) (World.news_of_block (unhide HBK)) (by simp [Value.oneCell']) (by omega) (by unfold maxLen; omega) (by omega) (by simp; omega) (W2.heap.size + 1) (by simp) ?_; intro gA cA w6 hoA hgA hatA hltA; have HOA := hide hoA; have HGA := hide hgA; have HAT := hide (show (Value.slice ra m rc).ownBlock = some gA ∨ gA = (W2.alloc (Obj.cells #[.pointer (some ⟨W.heap.size + 1, 0, none⟩)] 50)).heap.size from hatA.imp id (fun e => by rw [e]; simp)); have hbb := (unhide HGB) w6 hgA; have z4 := (Xr.cell_kept hbb 6).trans k6; have z5 := (Xr.frz_kept hbb 6).trans kf; clear hatA hltA hoA hgA hbb)
  go_ret
  have hA := (unhide HAP) _ (unhide HGA) _ _ (unhide HOA) (unhide HAT)
  refine ⟨W.heap.size + 1, rfl, (fun q => if q = gA then 2 else tg1 q), (⟨W.heap.size + 1, .slice none 0 0, sa, W.heap.size, 0, .map [], fun _ => none⟩ : Vm.Z), .slice (some ⟨gA, 0, none⟩) (m + 1) cA, rfl, ?_⟩
  rw [unhide HPC]
  exact ⟨hA.1, (unhide HF2).keep hA.2 (fun j h1 _ => by omega), (unhide HKT2).trans hA.2⟩
end Go.Proofs.YtpfogjplnodacaaGreat
namespace Go.Proofs.YtpfogjplnodacaaGreat
open Go.RowKit Go.Maps
set_option linter.unusedVariables false
theorem Vm.wr_num {s : Xr.S} {g g' : Xr.F} (h : g.num = g'.num) (a v i z : Int) : Xr.wrS s g a v i z = Xr.wrS s g' a v i z := by
 unfold Xr.wrS
 rw [h]
theorem Vm.parS_snoc (g : Xr.F) (a y : Int) : ∀ (zs : List Int) (i : Nat) (s : Xr.S), Xr.parS g a i (zs ++ [y]) s = Xr.wrS (Xr.parS g a i zs s) g a ((i + zs.length : Nat) : Int) 0 y
 | [], i, s => rfl
 | z :: r, i, s => by
  show Xr.parS g a (i + 1) (r ++ [y]) (Xr.wrS s g a (i : Nat) 0 z) = _
  rw [Vm.parS_snoc g a y r (i + 1), List.length_cons, show i + 1 + r.length = i + (r.length + 1) by omega]
  rfl
theorem Vm.parF_snoc (y : Int) : ∀ (zs : List Int) (i : Nat) (g : Xr.F), Xr.parF i (zs ++ [y]) g = Xr.wrF (Xr.parF i zs g) ((i + zs.length : Nat) : Int) 0 y
 | [], i, g => rfl
 | z :: r, i, g => by
  show Xr.parF (i + 1) (r ++ [y]) (Xr.wrF g (i : Nat) 0 z) = _
  rw [Vm.parF_snoc y r (i + 1), List.length_cons, show i + 1 + r.length = i + (r.length + 1) by omega]
  rfl
theorem Vm.G.made {w0 W : World} {tg : Nat → Nat} {bm : Nat} {c : Vm.Cx} {t : Pg.Sl} {s : Xr.S} {md : Nat} {rf ev : Value} {ps : List Value} (h : Vm.G w0 W tg bm c t s md rf ev ps) (k : Nat) : Vm.G w0 W tg bm c t { s with made := k } md rf ev ps := ⟨h.bel, h.lo, h.hbm, h.tb, h.box, h.inp, h.evr, h.tev, h.frr, h.trf⟩
structure Vm.Cg (w0 : World) (bm : Nat) (c : Vm.Cx) (ss : List (List Int)) (N : Nat) (tg3 : Nat → Nat) (W3 : World) (s : Xr.S) (F : Vd.F) (zs : List Int) (at_ : Int) (b : Nat) (r : List Vm.X) (rf : Value) (j : Nat) (V : World) : Prop where
 ex : ∃ (tg' : Nat → Nat) (z' : Vm.Z) (ev' : Value), z'.bf = b ∧ Vm.J w0 V tg' (N + j) bm c ss (Xr.parS F.fr at_ 0 (zs.take j) s) (({ F with fr := Xr.parF 0 (zs.take j) F.fr }, z') :: r) rf ev' ∧ Vm.K (Vm.Cw r.length) tg3 tg' W3 V
theorem Vm.take_snoc {zs : List Int} {j : Nat} {y : Int} (h : zs[j]? = some y) : zs.take (j + 1) = zs.take j ++ [y] := by
 rw [List.take_add_one, h]
 rfl
theorem Vm.noughts {sz : List Int} {k j : Nat} (hk : k ≤ sz.length) (h : (sz.take k).all (· == 0) = true) (hj : j < k) : sz[j]? = some 0 := by
 have hj2 : j < sz.length := by omega
 rw [List.all_eq_true] at h
 have := h (sz[j]) (by
  rw [List.mem_take_iff_getElem]
  exact ⟨j, by omega, rfl⟩)
 rw [List.getElem?_eq_getElem hj2]
 simpa using this
theorem vcall_deep {w0 W : World} {tg : Nat → Nat} {N N' bm : Nat} {c : Vm.Cx} {ss : List (List Int)} {s : Xr.S} {f : Vd.F} {z : Vm.Z} {r : List Vm.X} {rf ev : Value} {li : List Kd.I} (hfo : Vd.FOk li ss f) (h : Vm.J w0 W tg N bm c ss s ((f, z) :: r) rf ev) (hs : s.ended = false) (hle : s.evs.length ≤ 900000) (hr : r.length = 5) {q k : Nat} (hk : k ≤ f.pile.length) :
  Calls Tryz.prog 90 #[.pointer (some ⟨bm, 0, none⟩), .pointer (some ⟨z.bf, 0, none⟩), .int .i64 (q : Nat), .int .i64 (k : Nat)] W fun rr W' => rr = .returned (.tuple #[]) ∧ Vm.Q w0 bm c ss N' (Vd.over (Xr.fin s f.fr f.fr.at_ 4)) W' := by
 have htop := hfo.top
 have HP := hide (vpopAll_any h.frs.1 k hk (show f.pile.length ≤ 1000 by omega))
 have HJ := hide h
 have HSE := hide hs
 clear h hs
 go_enter Tryz.func90, Tryz.ntmps90
 go_wp2_with fail
 refine (unhide HP).mono ?_
 rintro r1 w1 ⟨a1, c1, z1, rfl, hcc, hz1, hf1, hk1, hpd⟩
 have hJ1 := (unhide HJ).frame hf1 hz1 (Nat.le_refl _) hk1
 obtain ⟨g, cp, _, _, k6, _, _, _⟩ := hJ1.top
 rw [hr] at k6
 have k0 := hf1.k0
 have k1 := hf1.k1
 rw [hz1] at k0 k1
 have HE := hide (vjend_any (N' := N') hJ1 z.bf f.fr f.fr.at_ 4 k0 (unhide HSE) (by omega))
 clear hf1 hz1 hk1 hJ1 hpd
 go_wp2_with fail
 refine (unhide HE).mono ?_
 rintro r2 w2 ⟨rfl, hq2⟩
 have HQ2 := hide hq2
 clear hq2
 go_wp2_with fail
 try simp only [Exit.inBlock, Exit.then]
 refine bodyPost_ret (results_none rfl _ _ _) rfl ?_
 exact ⟨rfl, unhide HQ2⟩
theorem vcall_on {w0 W : World} {tg : Nat → Nat} {N bm : Nat} {c : Vm.Cx} {ss : List (List Int)} {s : Xr.S} {f : Vd.F} {z : Vm.Z} {r : List Vm.X} {rf ev : Value} {li : List Kd.I} {fs : List Int} (hco : Kd.RCo w0 c.si c.sf c.sz li fs ss) (hc : Vd.Cd li fs ss) (hfo : Vd.FOk li ss f) (h : Vm.J w0 W tg N bm c ss s ((f, z) :: r) rf ev) (hs : s.ended = false) (hle : s.evs.length ≤ 900000) (hN : N ≤ 900000) (hmd : s.made ≤ 900000) (hr : r.length ≤ 4) {q k : Nat} (hq : q < ss.length) (hk : k ≤ f.pile.length) (hks : k ≤ (ss[q]?.getD []).length) (hno : ((ss[q]?.getD []).take k).all (· == 0) = true) (hk3 : k ≤ 3) :
  Calls Tryz.prog 90 #[.pointer (some ⟨bm, 0, none⟩), .pointer (some ⟨z.bf, 0, none⟩), .int .i64 (q : Nat), .int .i64 (k : Nat)] W fun rr W' => rr = .returned (.tuple #[]) ∧ Vm.Q w0 bm c ss (N + 3) ⟨Xr.parS (Xr.newF (s.made + 1) (f.fr.deep + 1) (ss[q]?.getD [])) f.fr.at_ 0 (f.pile.take k).reverse (Xr.tell { s with made := s.made + 1 } ⟨5, f.fr.num, f.fr.at_, (q : Nat), 0, ((s.made + 1 : Nat) : Int)⟩), ⟨Xr.parF 0 (f.pile.take k).reverse (Xr.newF (s.made + 1) (f.fr.deep + 1) (ss[q]?.getD [])), q, (fs[q]?.getD 0).toNat, []⟩ :: { f with pile := f.pile.drop k } :: r.map Prod.fst, false⟩ W' := by
 have htop := hfo.top
 have HP := hide (vpopAll_any h.frs.1 k hk (show f.pile.length ≤ 1000 by omega))
 have HJ := hide h
 have HSE := hide hs
 have hzl : (f.pile.take k).reverse.length = k := by rw [List.length_reverse, List.length_take, Nat.min_eq_left hk]
 have hzn : ∀ y ∈ (f.pile.take k).reverse, Vd.nm y := fun y hy => hfo.num y (List.mem_of_mem_take (List.mem_reverse.1 hy))
 have hpcl : (fs[q]?.getD 0).toNat ≤ li.length := by
  have hlt : q < fs.length := by have := hc.len; omega
  rw [List.getElem?_eq_getElem hlt]
  have := hc.fst _ (List.getElem_mem hlt)
  simp
  omega
 obtain ⟨F, hF⟩ : ∃ F : Vd.F, F = ⟨Xr.newF (s.made + 1) (f.fr.deep + 1) (ss[q]?.getD []), q, (fs[q]?.getD 0).toNat, []⟩ := ⟨_, rfl⟩
 have hFn : F.fn = q := by rw [hF]
 have hFnum : F.fr.num = s.made + 1 := by rw [hF]; rfl
 have HEN := hide (fun (W1 : World) (t : Pg.Sl) (rf1 : Value) (ms : List Vm.X) (hg : Vm.G w0 W1 tg bm c t s (s.made + 1) rf1 ev (Vm.ps ms)) (hfr : Vm.Frs w0 W1 tg N ss ms) (hl : ms.length ≤ 100) => show Calls Tryz.prog 17 #[.pointer (some ⟨bm, 0, none⟩), .int .i64 (q : Nat)] W1 fun rr W' => ∃ b, rr = .returned (.pointer (some ⟨b, 0, none⟩)) ∧ Vm.En w0 W1 tg N bm c t s (s.made + 1) ev ss ms F b W' by rw [hF]; exact venter_any hco hc hg hfr hl (by omega) (f.fr.deep + 1) hq)
 have HFO := hide (fun (j : Nat) => show Vd.FOk li ss { F with fr := Xr.parF 0 ((f.pile.take k).reverse.take j) F.fr } by
  have h1 := Vd.par_sh ((f.pile.take k).reverse.take j) 0 F.fr (fun y hy => hzn y (List.mem_of_mem_take hy)) (by rw [hF]; exact Vd.new_cell _ _ _)
  refine ⟨by rw [hFn]; exact hq, by rw [hF]; exact hpcl, by rw [hF]; simp, fun y hy => by rw [hF] at hy; simp at hy, ?_, h1.2.1⟩
  rw [h1.1]
  show _ = List.map _ (ss[F.fn]?.getD [])
  rw [hFn, hF]
  exact Vd.new_sh _ _ _)
 have HG := hide (show (⟨Xr.parS (Xr.newF (s.made + 1) (f.fr.deep + 1) (ss[q]?.getD [])) f.fr.at_ 0 (f.pile.take k).reverse (Xr.tell { s with made := s.made + 1 } ⟨5, f.fr.num, f.fr.at_, (q : Nat), 0, ((s.made + 1 : Nat) : Int)⟩), ⟨Xr.parF 0 (f.pile.take k).reverse (Xr.newF (s.made + 1) (f.fr.deep + 1) (ss[q]?.getD [])), q, (fs[q]?.getD 0).toNat, []⟩ :: { f with pile := f.pile.drop k } :: r.map Prod.fst, false⟩ : Vd.St) = ⟨Xr.parS F.fr f.fr.at_ 0 (f.pile.take k).reverse (Xr.tell { s with made := s.made + 1 } ⟨5, f.fr.num, f.fr.at_, (q : Nat), 0, ((s.made + 1 : Nat) : Int)⟩), { F with fr := Xr.parF 0 (f.pile.take k).reverse F.fr } :: { f with pile := f.pile.drop k } :: r.map Prod.fst, false⟩ by rw [hF])
 rw [unhide HG]
 obtain ⟨s3, hs3⟩ : ∃ s3, s3 = Xr.tell { s with made := s.made + 1 } ⟨5, f.fr.num, f.fr.at_, (q : Nat), 0, ((s.made + 1 : Nat) : Int)⟩ := ⟨_, rfl⟩
 rw [← hs3]
 have HS3E := hide hs3
 clear hs3
 have HFC := hide (show ∀ rr ∈ F.fr.vs, ∀ y ∈ rr, Vd.nm y by rw [hF]; exact Vd.new_cell _ _ _)
 have HC := hide hc
 have HNO := hide (fun (j : Nat) (hj : j < k) => show (ss[F.fn]?.getD [])[j]? = some 0 by rw [hFn]; exact Vm.noughts hks hno hj)
 have HZN := hide hzn
 clear h hs hF HG hfo hpcl hco hc hzn hno
 generalize f.pile.drop k = dp at *
 generalize (f.pile.take k).reverse = zs at *
 go_enter Tryz.func90, Tryz.ntmps90
 go_wp2_with fail
 refine (unhide HP).mono ?_
 rintro r1 w1 ⟨a1, c1, z1, rfl, hcc, hz1, hf1, hk1, hpd⟩
 have hJ1 := (unhide HJ).frame hf1 hz1 (Nat.le_refl _) hk1
 obtain ⟨g, cp, _, _, k6, _, _, _⟩ := hJ1.top
 have g6 : (((r.length + 1 : Nat) : Int) == 6) = false := by simp; omega
 obtain ⟨t1, hg1⟩ := hJ1.g
 have HE := hide ((unhide HEN) w1 t1 _ _ hg1 hJ1.frs (by simp; omega))
 have HPD := hide hpd
 have HZ1 := hide hz1
 clear hf1 hz1 hk1 hJ1 hpd hg1 HEN HP HJ
 go_wp2_with fail
 refine (unhide HE).mono ?_
 rintro r2 w2 ⟨b, rfl, tg2, z2, rf2, hz2, hg2, hfr2, hk2⟩
 have hJ2 : Vm.J w0 w2 tg2 N bm c ss { s with made := s.made + 1 } ((F, z2) :: ({ f with pile := dp }, z1) :: r) rf2 ev := ⟨⟨t1, hg2.made (s.made + 1)⟩, hfr2⟩
 have m1 := hJ2.frs.2.1.k1
 have m0 := hJ2.frs.2.1.k0
 have n0 := hJ2.frs.1.k0
 rw [show ((F, z2) : Vm.X).2.bf = b from hz2] at n0
 rw [show ((({ f with pile := dp } : Vd.F), z1) : Vm.X).2.bf = z.bf from unhide HZ1] at m1 m0
 have HSE2 := hide (show ({ s with made := s.made + 1 } : Xr.S).ended = false from unhide HSE)
 have HTL := hide (fun (V : World) (hV : Below w2.heap.size w2 V) => vjtell_any (hJ2.below hV) z.bf 5 f.fr.at_ (q : Nat) 0 ((s.made + 1 : Nat) : Int) _ ((Xr.cell_kept (hV.block z.bf (World.block_lt_of_cell? w2 _ m0)) 0).trans m0) (unhide HSE2) (show s.evs.length ≤ 1000000 by omega))
 have HK2 := hide hk2
 have HKM := hide (show w2.drew.cell? ⟨z.bf, 1, none⟩ = some (.int .i64 f.fr.at_) ∧ w2.drew.cell? ⟨b, 0, none⟩ = some (.int .i64 ((s.made + 1 : Nat) : Int)) from ⟨m1, by rw [← hFnum]; exact n0⟩)
 have HZ2 := hide hz2
 have HS3 := hide (show (Xr.tell { s with made := s.made + 1 } ⟨5, f.fr.num, f.fr.at_, (q : Nat), 0, ((s.made + 1 : Nat) : Int)⟩).ended = false ∧ (Xr.tell { s with made := s.made + 1 } ⟨5, f.fr.num, f.fr.at_, (q : Nat), 0, ((s.made + 1 : Nat) : Int)⟩).evs.length ≤ 900001 by
  rw [Vd.tell_evs (unhide HSE2)]
  refine ⟨unhide HSE, ?_⟩
  show (s.evs ++ [_]).length ≤ _
  rw [List.length_append]
  simp
  omega)
 rw [← unhide HS3E] at HTL HS3
 clear hg2 hfr2 hk2 hJ2 m1 m0 n0 HE k6 hz2
 go_upto_region 4 with fail
 go_cut [] (fun V => ∃ tg3 ev3, Vm.J w0 V tg3 N bm c ss s3 ((F, z2) :: ({ f with pile := dp }, z1) :: r) rf2 ev3 ∧ Vm.K (fun j => j < 3) tg2 tg3 w2 V)
 case first =>
  go_region_held3 (fun V => V.cell? ⟨z.bf, 1, none⟩ = some (.int .i64 f.fr.at_) ∧ V.cell? ⟨b, 0, none⟩ = some (.int .i64 ((s.made + 1 : Nat) : Int)))
   (first | assumption | exact unhide HKM | exact unhide HM3)
   (first | (go_at_call 89; refine ((unhide HTL) _ ?_).mono ?_; exact (Below.refl _ _).drew; rintro r3 w3 ⟨rfl, tg3, ev3, hj3, hk3⟩; have HM3 := hide (show w3.cell? ⟨z.bf, 1, none⟩ = some (.int .i64 f.fr.at_) ∧ w3.cell? ⟨b, 0, none⟩ = some (.int .i64 ((s.made + 1 : Nat) : Int)) from ⟨by rw [← unhide HZ1]; exact hj3.frs.2.1.k1, by rw [← unhide HZ2, ← hFnum]; exact hj3.frs.1.k0⟩); have HJ3 := hide hj3; have HK3 := hide hk3; clear hj3 hk3))
  all_goals
   go_wp2_with fail
   go_meet
   case rel => exact ⟨_, _, unhide HJ3, (Vm.K.below (tg := tg2) (Below.refl _ w2).drew).trans (unhide HK3)⟩
 case rest =>
  rename World => W3
  obtain ⟨tg3, ev3, hJ3, hk3⟩ := hcut
  have HK3 := hide (((unhide HK2).trans hk3).mono (D := Vm.Cw (r.length + 1)) Vm.Cm_Cw)
  have HC0 := hide (show Vm.Cg w0 bm c ss N tg3 W3 s3 F zs f.fr.at_ b (({ f with pile := dp }, z1) :: r) rf2 0 W3 from ⟨tg3, z2, ev3, unhide HZ2, hJ3, Vm.K.refl⟩)
  have HEN := hide (fun (V : World) (hV : Vm.Cg w0 bm c ss N tg3 W3 s3 F zs f.fr.at_ b (({ f with pile := dp }, z1) :: r) rf2 k V) => show Vm.Q w0 bm c ss (N + 3) ⟨Xr.parS F.fr f.fr.at_ 0 zs s3, { F with fr := Xr.parF 0 zs F.fr } :: { f with pile := dp } :: r.map Prod.fst, false⟩ V by
   obtain ⟨tg', z', ev', h1, h2, h3⟩ := hV.ex
   rw [show zs.take k = zs by rw [← hzl]; exact List.take_length] at h2
   exact Vm.Q.on (h2.more (by omega)) (Vd.par_evs zs F.fr f.fr.at_ 0 s3 (unhide HS3).1).2.1 rfl)
  clear hJ3 hk3 HTL HKM HK2
  by_cases hk0 : k = 0
  · subst hk0
    go_wp2_with fail
    go_loopw [46] (fun i V => i = .int .i64 0 ∧ Vm.Cg w0 bm c ss N tg3 W3 s3 F zs f.fr.at_ b (({ f with pile := dp }, z1) :: r) rf2 0 V) (fun i _ => 0)
    case atStart => exact ⟨rfl, unhide HC0⟩
    case round =>
     obtain ⟨rfl, hcg⟩ := hrel
     have HCG := hide ((unhide HEN) _ hcg)
     clear hcg
     go_wp2_with fail
     go_end0
     exact ⟨rfl, unhide HCG⟩
  · obtain ⟨y0, hy0⟩ : ∃ y0, zs[0]? = some y0 := ⟨_, List.getElem?_eq_getElem (by omega)⟩
    obtain ⟨b1, o1, rfl, hb1, ht1, _⟩ := (unhide HPD) 0 y0 hy0
    clear hy0
    go_wp2_with fail
    go_loopw [46] (fun i V => ∃ j : Nat, j ≤ k ∧ i = .int .i64 (j : Nat) ∧ Vm.Cg w0 bm c ss N tg3 W3 s3 F zs f.fr.at_ b (({ f with pile := dp }, z1) :: r) rf2 j V) (fun i _ => k - (intOf i).toNat)
    case atStart => exact ⟨0, Nat.zero_le _, rfl, unhide HC0⟩
    case round =>
     rename World => V
     obtain ⟨j, hj, rfl, hcg⟩ := hrel
     by_cases hlt : j < k
     · obtain ⟨y, hy⟩ : ∃ y, zs[j]? = some y := ⟨_, List.getElem?_eq_getElem (by omega)⟩
       obtain ⟨b1', o1', hh, _, _, hcy⟩ := (unhide HPD) j y hy
       cases hh
       obtain ⟨tg', z', ev', h1, h2, h3⟩ := hcg.ex
       have hkV := (unhide HK3).trans h3
       have p0 := (Xr.cell_kept (hkV.blk b1 hb1 (by rw [ht1]; unfold Vm.Cw; omega)) (o1 + j)).trans hcy
       have m1 := h2.frs.2.1.k1
       rw [show ((({ f with pile := dp } : Vd.F), z1) : Vm.X).2.bf = z.bf from unhide HZ1] at m1
       have hpe := Vd.par_evs (zs.take j) F.fr f.fr.at_ 0 s3 (unhide HS3).1
       have hps := Vd.par_sh (zs.take j) 0 F.fr (fun u hu => (unhide HZN) u (List.mem_of_mem_take hu)) (unhide HFC)
       obtain ⟨l, hvl, hll, h8⟩ := Vm.var (unhide HC) ((unhide HFO) j) ((unhide HNO) j hlt)
       have hwr := vwrite_any h2 hpe.2.1 (by rw [hpe.1, List.length_take]; have := (unhide HS3).2; omega) f.fr.at_ (v := j) (i := 0) y hvl ((unhide HNO) j hlt) hll h8 (by omega) (by omega)
       rw [show ((({ F with fr := Xr.parF 0 (zs.take j) F.fr } : Vd.F), z') : Vm.X).2.bf = b from h1] at hwr
       have HW := hide hwr
       have HNX := hide (fun (w6 : World) (tg6 : Nat → Nat) (z6 : Vm.Z) (ev6 : Value) (e1 : z6.bf = b) (e2 : Vm.J w0 w6 tg6 (N + j + 1) bm c ss (Xr.wrS (Xr.parS F.fr f.fr.at_ 0 (zs.take j) s3) (Xr.parF 0 (zs.take j) F.fr) f.fr.at_ (j : Nat) (0 : Nat) y) (({ F with fr := Xr.wrF (Xr.parF 0 (zs.take j) F.fr) (j : Nat) (0 : Nat) y }, z6) :: ({ f with pile := dp }, z1) :: r) rf2 ev6) (e3 : Vm.K (Vm.Cw (r.length + 1)) tg' tg6 V w6) => show Vm.Cg w0 bm c ss N tg3 W3 s3 F zs f.fr.at_ b (({ f with pile := dp }, z1) :: r) rf2 (j + 1) w6 from ⟨tg6, z6, ev6, e1, by
        have hl0 : (zs.take j).length = j := by rw [List.length_take]; omega
        rw [Vm.take_snoc hy, Vm.parS_snoc, Vm.parF_snoc, hl0, Nat.zero_add, ← Vm.wr_num hps.2.2.1]
        exact e2, h3.trans e3⟩)
       have hi0 : (0 : Int) ≤ (j : Int) := by omega
       have hi1 : (j : Int) < (k : Int) := by omega
       clear hcg h1 h2 h3 hkV hpe hps hvl hll h8 hwr hy hcy
       go_wp2_with fail
       refine (unhide HW).mono ?_
       rintro r6 w6 ⟨rfl, tg6, z6, ev6, e1, e2, e3⟩
       have HP6 := hide ((unhide HNX) _ _ _ _ e1 e2 e3)
       clear e1 e2 e3
       go_wp2_with fail
       exact ⟨⟨j + 1, by omega, by go_num, unhide HP6⟩, by simp [intOf]; omega⟩
     · have hje : j = k := by omega
       subst hje
       have HCG := hide ((unhide HEN) _ hcg)
       clear hcg
       go_wp2_with fail
       go_end0
       exact ⟨rfl, unhide HCG⟩
end Go.Proofs.YtpfogjplnodacaaGreat
namespace Go.Proofs.YtpfogjplnodacaaGreat
open Go.RowKit Go.Maps
set_option linter.unusedVariables false
theorem vread_any {w0 W : World} {tg : Nat → Nat} {N bm : Nat} {c : Vm.Cx} {ss : List (List Int)} {s : Xr.S} {f : Vd.F} {z : Vm.Z} {r : List Vm.X} {rf ev : Value} {li : List Kd.I} {fs : List Int} (hc : Vd.Cd li fs ss) (hfo : Vd.FOk li ss f) (h : Vm.J w0 W tg N bm c ss s ((f, z) :: r) rf ev) (hs : s.ended = false) (hle : s.evs.length ≤ 900000) (hN : N ≤ 1000000) {v : Nat} (ha : Vd.plain (ss[f.fn]?.getD []) (v : Nat) = true) :
  Calls Tryz.prog 88 #[.pointer (some ⟨bm, 0, none⟩), .pointer (some ⟨z.bf, 0, none⟩), .int .i64 (v : Nat)] W fun rr W' => rr = .returned (.tuple #[]) ∧ Vm.Q w0 bm c ss (N + 1) ⟨Xr.readS s f.fr (v : Nat), { f with fr := Xr.readF s f.fr (v : Nat) } :: r.map Prod.fst, false⟩ W' := by
 have hy := Vm.plain_at ha
 obtain ⟨l, hvl, hll, h8⟩ := Vm.var hc hfo hy
 have hl0 : 0 < l.length := by omega
 obtain ⟨⟨ta, tn, tc⟩, hg⟩ := h.g
 have k3 : W.cell? ⟨bm, 3, none⟩ = some (.slice ta tn tc) := hg.box.at_ 3 _ rfl
 have y3 := hg.box.fz 3
 have hrn := hg.inp
 have hlen : tn = s.inp.length := hrn.len
 have hfew := hrn.few
 have hcap : tn ≤ tc := hrn.cap
 rw [← hlen] at hfew
 have hbm := hg.hbm
 have hbml := hg.box.lt
 have k0 := h.frs.1.k0
 have k1 := h.frs.1.k1
 have HTL := hide (fun (V : World) (hJ : Vm.J w0 V tg N bm c ss (Xr.inS s) ((f, z) :: r) rf ev) => vjtell_any hJ z.bf 3 f.fr.at_ 0 0 (Xr.inZ s) _ hJ.frs.1.k0 (show (Xr.inS s).ended = false from hs) (show s.evs.length ≤ 1000000 by omega))
 have HWR := hide (fun (V : World) (tg' : Nat → Nat) (ev1 : Value) (hJ : Vm.J w0 V tg' N bm c ss (Xr.tell (Xr.inS s) ⟨3, f.fr.num, f.fr.at_, 0, 0, Xr.inZ s⟩) ((f, z) :: r) rf ev1) => vwrite_any hJ (show (Xr.tell (Xr.inS s) ⟨3, f.fr.num, f.fr.at_, 0, 0, Xr.inZ s⟩).ended = false by rw [Vd.tell_evs (s := Xr.inS s) hs]; exact hs) (show (Xr.tell (Xr.inS s) ⟨3, f.fr.num, f.fr.at_, 0, 0, Xr.inZ s⟩).evs.length ≤ 1000000 by rw [Vd.tell_evs (s := Xr.inS s) hs]; show (s.evs ++ _).length ≤ _; rw [List.length_append]; simp; omega) f.fr.at_ (v := v) (i := 0) (Xr.inZ s) hvl hy hll h8 hl0 hN)
 have HSE := hide (show (Xr.readS s f.fr (v : Nat)).ended = false by
  unfold Xr.readS Xr.wrS
  rw [Vd.tell_evs (s := Xr.inS s) hs, Vd.tell_evs]
  · exact hs
  · exact hs)
 have HJ0 := hide (fun (hn : s.inp = []) => show Vm.J w0 W tg N bm c ss (Xr.inS s) ((f, z) :: r) rf ev by
  have : Xr.inS s = s := by unfold Xr.inS; rw [hn]; show { s with inp := [] } = s; rw [← hn]
  rw [this]; exact h)
 have HJt := hide (fun (t : Pg.Sl) (ht : Pg.RN w0 t s.inp.tail) => show Vm.J w0 (W.setCell ⟨bm, 3, none⟩ (.slice t.ad t.len t.cap)) tg N bm c ss (Xr.inS s) ((f, z) :: r) rf ev from h.machine (hg.set 3 (.slice t.ad t.len t.cap) (t' := t) (s' := Xr.inS s) rfl ht rfl).1 (hg.set 3 (.slice t.ad t.len t.cap) (t' := t) (s' := Xr.inS s) rfl ht rfl).2)
 have HIZ := hide (show Xr.inZ s = s.inp.headD 0 from rfl)
 have HBL := hide h.bel
 have HRS := hide (show Xr.readS s f.fr (v : Nat) = Xr.wrS (Xr.tell (Xr.inS s) ⟨3, f.fr.num, f.fr.at_, 0, 0, Xr.inZ s⟩) f.fr f.fr.at_ (v : Nat) (0 : Nat) (Xr.inZ s) from rfl)
 have HRF := hide (show Xr.readF s f.fr (v : Nat) = Xr.wrF f.fr (v : Nat) (0 : Nat) (Xr.inZ s) from rfl)
 generalize Xr.tell (Xr.inS s) ⟨3, f.fr.num, f.fr.at_, 0, 0, Xr.inZ s⟩ = s2 at *
 generalize Xr.readS s f.fr (v : Nat) = sR at *
 generalize Xr.readF s f.fr (v : Nat) = fR at *
 generalize Xr.inZ s = zz at *
 generalize Xr.inS s = s1 at *
 have HRN := hide hrn
 have HLN := hide hlen
 clear h hg hle hvl hll hl0 hrn hlen hy hs ha k0 k1
 go_enter Tryz.func88, Tryz.ntmps88
 go_upto_if 12 with fail
 go_cut [6] (fun t V => t = .int .i64 zz ∧ Vm.J w0 V tg N bm c ss s1 ((f, z) :: r) rf ev)
 case first =>
  cases hin : s.inp with
  | nil =>
   have hn0 : tn = 0 := by have := unhide HLN; rw [hin] at this; exact this
   have HJ := hide ((unhide HJ0) hin)
   have HZ := hide (show zz = 0 by rw [unhide HIZ, hin]; rfl)
   have g0 : decide ((0 : Int) < (tn : Int)) = false := by rw [hn0]; rfl
   have g1 : ¬ (tn : Int) > 0 := by omega
   clear hin hn0
   go_wp2_with fail
   go_meet
   case rel => exact ⟨by rw [unhide HZ], unhide HJ⟩
  | cons z0 r0 =>
   have hn0 : tn = r0.length + 1 := by have := unhide HLN; rw [hin] at this; exact this
   have hrn := unhide HRN
   rw [hin] at hrn
   obtain ⟨b, o, ha, hb, hcc⟩ := hrn.at_ 0 z0 rfl
   have ha' : ta = some ⟨b, o, none⟩ := ha
   subst ha'
   have p0 := ((unhide HBL).cell (p := ⟨b, o + 0, none⟩) hb).trans hcc
   rw [Nat.add_zero] at p0
   have HZ := hide (show zz = z0 by rw [unhide HIZ, hin]; rfl)
   have hbn : b ≠ bm := by omega
   by_cases htc : tc = 1
   · subst htc
     have htn : tn = 1 := by omega
     subst htn
     have hr0 : r0 = [] := List.eq_nil_of_length_eq_zero (by omega)
     have HJ := hide ((unhide HJt) ⟨some ⟨b, o, none⟩, 0, 0⟩ (by rw [hin, hr0]; exact ⟨rfl, Nat.le_refl _, by simp, fun i y hy => by simp at hy⟩))
     clear hin hrn hcc ha HJ0 HJt HRN HLN hn0 hr0
     go_upto_region 2 with fail
     go_region_law (fail)
     all_goals
      go_wp2_with fail
      go_meet
      case rel => exact ⟨by rw [unhide HZ], (unhide HJ).below ((Below.refl _ _).drew)⟩
   · have HJ := hide ((unhide HJt) ⟨some ⟨b, o + 1, none⟩, tn - 1, tc - 1⟩ (by rw [hin]; exact hrn.tail))
     have g1 : (tn : Int) > 0 := by omega
     have g2 : (1 : Int) ≤ (tn : Int) := by omega
     have g3 : (1 : Int) ≤ (tc : Int) := by omega
     have g4 : (0 : Int) < (tn : Int) := by omega
     have g5 : 1 ≤ tn := by omega
     clear hin hrn hcc ha HJ0 HJt HRN HLN hn0
     go_upto_region 2 with fail
     go_region_law (fail)
     all_goals
      go_wp2_with fail
      go_meet
      case rel => exact ⟨by rw [unhide HZ], (unhide HJ).below ((Below.refl _ _).drew)⟩
 case rest =>
  rename World => W2
  obtain ⟨rfl, hJ2⟩ := hcut
  have m1 := hJ2.frs.1.k1
  have HT := hide ((unhide HTL) W2 hJ2)
  clear hJ2 k3 y3 HTL
  go_wp2_with fail
  refine (unhide HT).mono ?_
  rintro r3 w3 ⟨rfl, tg3, ev3, hj3, hk3⟩
  have n1 := hj3.frs.1.k1
  have HW := hide ((unhide HWR) w3 tg3 ev3 hj3)
  clear hj3 hk3 HWR
  go_wp2_with fail
  refine (unhide HW).mono ?_
  rintro r4 w4 ⟨rfl, tg4, z4, ev4, hz4, hj4, hk4⟩
  have HJ4 := hide hj4
  clear hz4 hj4 hk4
  go_wp2_with fail
  go_end0
  refine ⟨rfl, ?_⟩
  have hj := unhide HJ4
  rw [← unhide HRS, ← unhide HRF] at hj
  exact Vm.Q.on hj (unhide HSE) rfl
end Go.Proofs.YtpfogjplnodacaaGreat
