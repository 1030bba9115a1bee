/-
  VMn, VMr, VBeg. By the verifier.
-/
import Derived.Test.YtpfogjplnodacaaGreatLP
import Derived.Test.YtpfogjplnodacaaGreatLL
import Derived.Test.YtpfogjplnodacaaGreatLQ
set_option maxRecDepth 100000
set_option maxHeartbeats 6400000
namespace Go.Proofs.YtpfogjplnodacaaGreat
open Go.RowKit Go.Maps
set_option linter.unusedVariables false
theorem Tryz.infoFu : (Tryz.prog.info? 78).map (fun i => (i.zero, i.size, i.bytes)) = some (some (.agg #[.int .i64 0, .slice none 0 0, .slice none 0 0, .int .i64 0, .int .i64 0, .slice none 0 0]), 6, 96) := by kernel_rfl
def Vm.ans (li : List Kd.I) (fs : List Int) (ss : List (List Int)) (inp : List Int) (fuel : Int) : List Ev × Bool × Nat :=
 if Kd.chk li fs ss = 0 then
  (if Pg.chkIn inp fuel = 0 then (if (Vd.go li fs ss 50000 (Vd.start fs ss inp fuel.toNat)).s.ended then ((Vd.go li fs ss 50000 (Vd.start fs ss inp fuel.toNat)).s.evs, true, 0) else ([], false, 0))
  else ([], false, Pg.chkIn inp fuel))
 else ([], false, Kd.chk li fs ss)
def Vm.p0 : List (Pg.FT 1 1) := [⟨0, [], [], ((0, 0), [])⟩]
theorem Vm.p0_chk : Pg.chkP Vm.p0 = 0 := by kernel_rfl
theorem Vm.p0_fit : Pg.parFit Vm.p0 := by
 intro x hx
 unfold Vm.p0 at hx
 simp at hx
 subst hx
 show (0 : Int) ≤ _
 omega
theorem Vm.p0_chkR (inp : List Int) (fuel : Int) : Xr.chkR Vm.p0 inp fuel = Pg.chkIn inp fuel := by
 unfold Xr.chkR
 rw [if_pos Vm.p0_chk]
theorem Vm.p0_rp {W : World} {b : Nat} (h : Vm.Bx W b [.int .i64 0, .slice none 0 0, .slice none 0 0, .int .i64 0, .int .i64 0, .slice none 0 0]) : Pg.RP W 1 1 ⟨some ⟨b, 0, none⟩, 1, 1⟩ Vm.p0 := by
 refine ⟨rfl, Nat.le_refl _, by show 1 ≤ _; omega, fun i y hy => ?_⟩
 match i, hy with
 | 0, hy =>
  cases hy
  refine ⟨b, 0, ⟨0, ⟨none, 0, 0⟩, ⟨none, 0, 0⟩, ⟨0, 0, ⟨none, 0, 0⟩⟩⟩, rfl, h.lt, ⟨h.at_ 0 _ rfl, h.at_ 1 _ rfl, h.at_ 2 _ rfl, h.at_ 3 _ rfl, h.at_ 4 _ rfl, h.at_ 5 _ rfl⟩, rfl, ⟨rfl, Nat.le_refl _, by simp, fun i z hz => by simp at hz⟩, ⟨rfl, Nat.le_refl _, by simp, fun i z hz => by simp at hz⟩, ⟨rfl, rfl⟩, rfl, Nat.le_refl _, by simp, fun i z hz => by simp at hz⟩
 | j + 1, hy => simp [Vm.p0] at hy
theorem Vm.begun {V W4 : World} {c : Vm.Cx} {t : Pg.Sl} {inp : List Int} {fuel : Nat} (hb : Below V.heap.size V W4) (h : W4.heap[V.heap.size]? = some (.cells #[.slice c.si.ad c.si.len c.si.cap, .slice c.sf.ad c.sf.len c.sf.cap, .slice c.sz.ad c.sz.len c.sz.cap, .slice t.ad t.len t.cap, .int .i64 (fuel : Nat), .int .i64 0, .slice none 0 0, .slice none 0 0, .bool false] 49 (0, 0))) (hin : Pg.RN V t inp) : Vm.G V W4 (fun q => if q < V.heap.size then 4 else 0) V.heap.size c t ⟨inp, fuel, 0, [], false⟩ 0 (.slice none 0 0) (.slice none 0 0) (Vm.ps []) :=
 ⟨hb, fun q hq => if_pos hq, Nat.le_refl _, if_neg (by omega), Vm.Bx.new h, hin, ⟨rfl, .inl ⟨rfl, rfl⟩⟩, fun q hq => (by cases hq), ⟨rfl, .inl ⟨rfl, rfl⟩⟩, fun q hq => (by cases hq)⟩
theorem Vm.start_rn {V W' : World} {tg : Nat → Nat} {bm : Nat} {c : Vm.Cx} {t : Pg.Sl} {li : List Kd.I} {fs : List Int} {ss : List (List Int)} {inp : List Int} {fuel b : Nat} (hc : Vd.Cd li fs ss) (hi : ∀ z ∈ inp, Vd.nm z) (hf : fuel ≤ 500) {W : World} (h : Vm.En V W tg 0 bm c t ⟨inp, fuel, 0, [], false⟩ 0 (.slice none 0 0) ss [] ⟨Xr.newF 0 0 (ss[fs.length - 1]?.getD []), fs.length - 1, (fs[fs.length - 1]?.getD 0).toNat, []⟩ b W') : Vm.Rn V bm c li fs ss (Vd.go li fs ss 50000 (Vd.start fs ss inp fuel)) 0 W' := by
 obtain ⟨tg', z', rf', h1, h2, h3, h4⟩ := h
 exact ⟨_, z', [], _, tg', rf', _, rfl, Vd.start_ok hc hi fuel, by show fuel ≤ _; omega, ⟨t, h2⟩, h3⟩
theorem Vm.inp_nm {inp : List Int} {fuel : Int} (h : Pg.chkIn inp fuel = 0) : (∀ z ∈ inp, Vd.nm z) ∧ 0 ≤ fuel ∧ fuel ≤ 500 := by
 unfold Pg.chkIn at h
 split at h
 · cases h
 · split at h
   · cases h
   · rename_i h1 h2
     split at h
     · rename_i h3
       rw [Bool.not_eq_true] at h2
       exact ⟨fun z hz => by have := List.any_eq_false.1 h2 z hz; rw [Bool.not_eq_true] at this; exact this, h3⟩
     · cases h
end Go.Proofs.YtpfogjplnodacaaGreat
namespace Go.Proofs.YtpfogjplnodacaaGreat
open Go.RowKit Go.Maps
set_option linter.unusedVariables false
def Vm.Rv (w : World) (A : List Ev × Bool × Nat) (r : Ending) (w' : World) : Prop := ∃ a cp, r = .returned (.tuple #[.slice a A.1.length cp, .bool A.2.1, .int .i64 (A.2.2 : Nat)]) ∧ w'.ownsRow w.heap.size 63 6 (.slice a A.1.length cp) A.1.length (Xr.evC A.1) ∧ Below w.heap.size w w'
theorem Vm.Rv.no {w w' : World} {A : List Ev × Bool × Nat} {e : Nat} (hA : A = ([], false, e)) (hb : Below w.heap.size w w') : Vm.Rv w A (.returned (.tuple #[.slice none 0 0, .bool false, .int .i64 (e : Nat)])) w' := by
 subst hA
 exact ⟨none, 0, rfl, ⟨rfl, .inl ⟨rfl, rfl⟩⟩, hb⟩
theorem vRun_any (si sf sz : Pg.Sl) (li : List Kd.I) (fs : List Int) (ss : List (List Int)) (ts : Pg.Sl) (inp : List Int) (fuel : Int) (w : World) (hco : Kd.RCo w si sf sz li fs ss) (hin : Pg.RN w ts inp) :
  Calls Tryz.prog 5 #[.agg #[.slice si.ad si.len si.cap, .slice sf.ad sf.len sf.cap, .slice sz.ad sz.len sz.cap], .slice ts.ad ts.len ts.cap, .int .i64 fuel] w (Vm.Rv w (Vm.ans li fs ss inp fuel)) := by
 obtain ⟨A, hA⟩ : ∃ A, A = Vm.ans li fs ss inp fuel := ⟨_, rfl⟩
 rw [← hA]
 have HA := hide hA
 clear hA
 have hb0 := (Below.refl w.heap.size w).alloc (Nat.le_refl _) (Obj.cells #[.slice si.ad si.len si.cap, .slice sf.ad sf.len sf.cap, .slice sz.ad sz.len sz.cap] 26)
 have hbx := Vm.Bx.new (heap_alloc_new w (Obj.cells #[.slice si.ad si.len si.cap, .slice sf.ad sf.len sf.cap, .slice sz.ad sz.len sz.cap] 26))
 have HCK := hide (kCheck_any si sf sz li fs ss _ (hco.later hb0 (Nat.le_refl _)))
 have HB0 := hide hb0
 have HBX := hide hbx
 have HCO := hide hco
 have HIN := hide hin
 have a0 := hbx.at_ 0 _ rfl
 have a1 := hbx.at_ 1 _ rfl
 have a2 := hbx.at_ 2 _ rfl
 have HIM := hide (fun (B : Nat) (g : Nat) (e : Nat) (hb : Vm.Rv w A = Vm.Rv w A) => trivial)
 clear hb0 hbx hco hin HIM
 go_enter Tryz.func5, Tryz.ntmps5
 go_wp2_with fail
 refine (unhide HCK).mono ?_
 rintro r1 w1 ⟨rfl, hb1⟩
 have hB1 := (unhide HB0).trans (hb1.mono (unhide HB0).size)
 have hbx1 := (unhide HBX).kept hb1.size (hb1.block _ (unhide HBX).lt)
 clear a0 a1 a2 HCK hb1
 by_cases h1 : Kd.chk li fs ss = 0
 · have HCD := hide (Vd.cd_of h1)
   have HH1 := hide h1
   rw [h1]
   obtain ⟨i0, hi0, hz0, hz1', hz2⟩ := info_of Tryz.infoFu
   obtain ⟨w2, hmk, hrow, hgr⟩ := run_make_full (P := Tryz.prog) w1 w1.heap.size 38 78 i0 _ 6 Tryz.underlying38 hi0 hz0 hz1' .i64 .i64 1 (by rw [hz2]; omega) (by unfold maxLen; omega) (Nat.le_refl _)
   have hb2 : Below w1.heap.size w1 w2 := ⟨hgr.os, hgr.tape, hgr.output, hgr.size, fun q hq => hgr.block q hq (by simp)⟩
   have hbf : Vm.Bx w2 w1.heap.size [.int .i64 0, .slice none 0 0, .slice none 0 0, .int .i64 0, .int .i64 0, .slice none 0 0] := by
    refine ⟨(hrow.lt w1.heap.size rfl).2, fun i v hv => ?_, fun i => hrow.frozenAt i⟩
    have hi : i < 6 := (List.getElem?_eq_some_iff.1 hv).1
    rw [hrow.cellAt i (by omega), show (madeCells (Value.agg #[.int .i64 0, .slice none 0 0, .slice none 0 0, .int .i64 0, .int .i64 0, .slice none 0 0]).cells (1 * 6)).toList = [.int .i64 0, .slice none 0 0, .slice none 0 0, .int .i64 0, .int .i64 0, .slice none 0 0] from by kernel_rfl]
    exact hv
   have hB2 := hB1.trans (hb2.mono hB1.size)
   have hbx2 := hbx1.kept hb2.size (hb2.block _ hbx1.lt)
   have hrun := Run_any ⟨some ⟨w1.heap.size, 0, none⟩, 1, 1⟩ Vm.p0 ts inp fuel w2 (Vm.p0_rp hbf) Vm.p0_fit ((unhide HIN).later hB2 (Nat.le_refl _))
   rw [Vm.p0_chkR] at hrun
   have HRU := hide hrun
   have hmk' : (Instr.makeSlice 38 (.int .i64 1) (.int .i64 1)).run Tryz.prog w1 = .ok (.slice (some ⟨w1.heap.size, 0, none⟩) 1 1) w2 := hmk
   clear hbf hrow hgr hb2 hrun hi0 hz0 hz1' hz2 hbx1 hB1 h1 hmk
   go_wp2_with fail
   refine (unhide HRU).mono ?_
   rintro r3 w3 ⟨ea, ec, rfl, _, hb3⟩
   have hB3 := hB2.trans (hb3.mono hB2.size)
   have hbx3 := hbx2.kept hb3.size (hb3.block _ hbx2.lt)
   clear hmk' HRU hb3 hB2 hbx2
   by_cases h2 : Pg.chkIn inp fuel = 0
   · obtain ⟨hnm, hf0, hf5⟩ := Vm.inp_nm h2
     obtain ⟨fu, rfl⟩ : ∃ fu : Nat, fuel = fu := ⟨fuel.toNat, by omega⟩
     have HA2 := hide (show A = if (Vd.go li fs ss 50000 (Vd.start fs ss inp fu)).s.ended then ((Vd.go li fs ss 50000 (Vd.start fs ss inp fu)).s.evs, true, 0) else ([], false, 0) by
      rw [unhide HA]
      unfold Vm.ans
      rw [if_pos (unhide HH1), if_pos h2, Int.toNat_natCast])
     rw [h2]
     have hc := unhide HCD
     have hsf : sf.len = fs.length := (unhide HCO).fst.len
     obtain ⟨n, hn⟩ : ∃ n, fs.length = n + 1 := ⟨fs.length - 1, by have := hc.pos; have := hc.len; omega⟩
     have hn0 : fs.length - 1 = n := by omega
     have hnl : n < 140737488355328 := by have := (unhide HCO).fst.few; omega
     have hfl : sf.len = n + 1 := hsf.trans hn
     have hco3 := (unhide HCO).later hB3 (Nat.le_refl _)
     have hin3 := (unhide HIN).later hB3 (Nat.le_refl _)
     have b4 := (Below.refl w3.heap.size w3).alloc (Nat.le_refl _) (Obj.cells #[.slice si.ad si.len si.cap, .slice sf.ad (n + 1) sf.cap, .slice sz.ad sz.len sz.cap, .slice ts.ad ts.len ts.cap, .int .i64 (fu : Nat), .int .i64 0, .slice none 0 0, .slice none 0 0, .bool false] 49)
     have hG := Vm.begun (V := w3) (c := ⟨si, sf, sz⟩) (t := ts) (inp := inp) (fuel := fu) b4 (by rw [heap_alloc_new w3 (Obj.cells #[.slice si.ad si.len si.cap, .slice sf.ad (n + 1) sf.cap, .slice sz.ad sz.len sz.cap, .slice ts.ad ts.len ts.cap, .int .i64 (fu : Nat), .int .i64 0, .slice none 0 0, .slice none 0 0, .bool false] 49)]; dsimp only; rw [hfl]) hin3
     have hen := venter_any (w0 := w3) (c := ⟨si, sf, sz⟩) (N := 0) (ms := []) hco3 hc hG trivial (by simp) (by omega) 0 (q := n) (by have := hc.len; omega)
     have HEN := hide hen
     have HST := hide (fun (W' : World) (b : Nat) (he : Vm.En w3 (w3.alloc (Obj.cells #[.slice si.ad si.len si.cap, .slice sf.ad (n + 1) sf.cap, .slice sz.ad sz.len sz.cap, .slice ts.ad ts.len ts.cap, .int .i64 (fu : Nat), .int .i64 0, .slice none 0 0, .slice none 0 0, .bool false] 49)) (fun q => if q < w3.heap.size then 4 else 0) 0 w3.heap.size ⟨si, sf, sz⟩ ts ⟨inp, fu, 0, [], false⟩ 0 (.slice none 0 0) ss [] ⟨Xr.newF 0 0 (ss[n]?.getD []), n, (fs[n]?.getD 0).toNat, []⟩ b W') => by
      have hr := Vm.start_rn (li := li) (fs := fs) hc hnm (show fu ≤ 500 by omega) (by rw [hn0]; exact he)
      exact vrun_any hco3 hc hr)
     have hbx4 := hbx3.kept b4.size (b4.block _ hbx3.lt)
     have e0 := hbx3.at_ 0 _ rfl
     have e1 : w3.cell? ⟨w.heap.size, 1, none⟩ = some (.slice sf.ad (n + 1) sf.cap) := by rw [← hfl]; exact hbx3.at_ 1 _ rfl
     have e2 := hbx3.at_ 2 _ rfl
     have e4 : (w3.alloc (Obj.cells #[.slice si.ad si.len si.cap, .slice sf.ad (n + 1) sf.cap, .slice sz.ad sz.len sz.cap, .slice ts.ad ts.len ts.cap, .int .i64 (fu : Nat), .int .i64 0, .slice none 0 0, .slice none 0 0, .bool false] 49)).cell? ⟨w.heap.size, 1, none⟩ = some (.slice sf.ad (n + 1) sf.cap) := (hbx4.at_ 1 _ rfl).trans (by rw [hfl])
     have hw1 : IntKind.i64.wrap (((n + 1 : Nat) : Int) - 1) = (n : Int) := by rw [IntKind.wrap_i64]; omega
     have hw2 : IntKind.i64.wrap (n : Int) = (n : Int) := by rw [IntKind.wrap_i64]; omega
     have HB3 := hide hB3
     generalize Vd.go li fs ss 50000 (Vd.start fs ss inp fu) = FIN at *
     clear hc hsf hn hn0 hfl hco3 hin3 b4 hG hen hbx3 hbx4 h2 hnm hB3
     go_upto_region 8 with fail
     clear e0 e1 e2
     generalize w3.alloc (Obj.cells #[.slice si.ad si.len si.cap, .slice sf.ad (n + 1) sf.cap, .slice sz.ad sz.len sz.cap, .slice ts.ad ts.len ts.cap, .int .i64 (fu : Nat), .int .i64 0, .slice none 0 0, .slice none 0 0, .bool false] 49) = W4 at *
     go_wp2_with fail
     refine (unhide HEN).mono ?_
     rintro r5 w5 ⟨b, rfl, hen⟩
     have HRN := hide ((unhide HST) _ _ hen)
     clear hen HST HEN e4
     go_wp2_with fail
     refine (unhide HRN).mono ?_
     rintro r6 w6 ⟨rfl, hbw, hfin⟩
     have HB6 := hide ((unhide HB3).trans (hbw.mono (unhide HB3).size))
     cases hend : FIN.s.ended with
     | false =>
      have HN := hide (show A = ([], false, 0) by rw [unhide HA2, if_neg (by rw [hend]; decide)])
      clear hend hfin hbw HRN
      go_wp2_with fail
      exact bodyPost_ret (v := .tuple #[.slice none 0 0, .bool false, .int .i64 ((0 : Nat) : Int)]) (by simp [results, Tryz.results5, go_sem]) rfl (Vm.Rv.no (unhide HN) (unhide HB6))
     | true =>
      obtain ⟨tg6, ti6, md6, rf6, ev6, ps6, hg6⟩ := hfin hend
      have HN := hide (show A = (FIN.s.evs, true, 0) by rw [unhide HA2, if_pos hend])
      obtain ⟨ea6, ec6, hev⟩ := hg6.form
      have k7 : w6.cell? ⟨w3.heap.size, 7, none⟩ = some (.slice ea6 FIN.s.evs.length ec6) := by rw [← hev]; exact hg6.box.at_ 7 _ rfl
      have HRW := hide (show w6.ownsRow w.heap.size 63 6 (.slice ea6 FIN.s.evs.length ec6) FIN.s.evs.length (Xr.evC FIN.s.evs) by rw [← hev]; exact Pg.ow_base hg6.evr (unhide HB3).size)
      clear hend hfin hbw HRN hg6 hev
      go_wp2_with fail
      refine bodyPost_ret (v := .tuple #[.slice ea6 FIN.s.evs.length ec6, .bool true, .int .i64 ((0 : Nat) : Int)]) (by simp [results, Tryz.results5, go_sem]) rfl ?_
      rw [unhide HN]
      exact ⟨ea6, ec6, rfl, unhide HRW, unhide HB6⟩
   · have HB3 := hide hB3
     have HN := hide (show A = ([], false, Pg.chkIn inp fuel) by rw [unhide HA]; unfold Vm.ans; rw [if_pos (unhide HH1), if_neg h2])
     obtain ⟨E, hE⟩ : ∃ E, E = Pg.chkIn inp fuel := ⟨_, rfl⟩
     rw [← hE] at h2 HN ⊢
     have g1 : (((E : Nat) : Int) != 0) = true := by simpa using h2
     clear hE hbx3 hB3
     go_wp2_with fail
     exact bodyPost_ret (v := .tuple #[.slice none 0 0, .bool false, .int .i64 (E : Nat)]) (by simp [results, Tryz.results5, go_sem]) rfl (Vm.Rv.no (unhide HN) (unhide HB3))
 · have HB1 := hide hB1
   have HN := hide (show A = ([], false, Kd.chk li fs ss) by rw [unhide HA]; unfold Vm.ans; rw [if_neg h1])
   obtain ⟨E, hE⟩ : ∃ E, E = Kd.chk li fs ss := ⟨_, rfl⟩
   rw [← hE] at h1 HN ⊢
   have g1 : (((E : Nat) : Int) != 0) = true := by simpa using h1
   clear hE hbx1 hB1
   go_wp2_with fail
   exact bodyPost_ret (v := .tuple #[.slice none 0 0, .bool false, .int .i64 (E : Nat)]) (by simp [results, Tryz.results5, go_sem]) rfl (Vm.Rv.no (unhide HN) (unhide HB1))
end Go.Proofs.YtpfogjplnodacaaGreat
namespace Go.Proofs.YtpfogjplnodacaaGreat
open Go.RowKit Go.Maps
set_option linter.unusedVariables false
def Vm.c1 : List Kd.I := [⟨2, 3, 0⟩, ⟨9, 0, 0⟩, ⟨14, 0, 0⟩]
def Vm.c2 : List Kd.I := [⟨9, 0, 0⟩, ⟨14, 0, 0⟩]
def Vm.t1 : List Ev := [⟨4, 0, -1, 0, 0, 3⟩, ⟨7, 0, -1, 0, 0, 0⟩]
theorem Vm.c1_ans : Vm.ans Vm.c1 [0] [[]] [] 0 = (Vm.t1, true, 0) := by kernel_rfl
theorem Vm.c2_ans : Vm.ans Vm.c2 [0] [[]] [] 0 = ([], false, 0) := by kernel_rfl
theorem Vm.ri_of {W : World} {b o : Nat} {l : List Kd.I} (hl : l.length ≤ 100) (h : ∀ (i : Nat) (x : Kd.I), l[i]? = some x → W.cell? ⟨b, o + i * 3, none⟩ = some (.int .i64 x.k) ∧ W.cell? ⟨b, o + i * 3 + 1, none⟩ = some (.int .i64 x.a) ∧ W.cell? ⟨b, o + i * 3 + 2, none⟩ = some (.int .i64 x.b)) (hb : b < W.heap.size) : Kd.RI W ⟨some ⟨b, o, none⟩, l.length, l.length⟩ l :=
 ⟨rfl, Nat.le_refl _, by omega, fun i x hx => ⟨b, o, rfl, hb, h i x hx⟩⟩
theorem Vm.c_rco {W : World} {g f z : Nat} (h1 : Vm.Bx W g [.int .i64 2, .int .i64 3, .int .i64 0, .int .i64 9, .int .i64 0, .int .i64 0, .int .i64 14, .int .i64 0, .int .i64 0]) (h2 : Vm.Bx W f [.int .i64 0]) (h3 : Vm.Bx W z [.slice none 0 0]) :
  Kd.RCo W ⟨some ⟨g, 0, none⟩, 3, 3⟩ ⟨some ⟨f, 0, none⟩, 1, 1⟩ ⟨some ⟨z, 0, none⟩, 1, 1⟩ Vm.c1 [0] [[]] ∧ Kd.RCo W ⟨some ⟨g, 3, none⟩, 2, 2⟩ ⟨some ⟨f, 0, none⟩, 1, 1⟩ ⟨some ⟨z, 0, none⟩, 1, 1⟩ Vm.c2 [0] [[]] := by
 have hf : Pg.RN W ⟨some ⟨f, 0, none⟩, 1, 1⟩ [0] := ⟨rfl, Nat.le_refl _, by simp, fun i y hy => by
  match i, hy with
  | 0, hy => cases hy; exact ⟨f, 0, rfl, h2.lt, h2.at_ 0 _ rfl⟩
  | _ + 1, hy => simp at hy⟩
 have hz : Pg.RV W ⟨some ⟨z, 0, none⟩, 1, 1⟩ [[]] := ⟨rfl, Nat.le_refl _, by simp, fun i y hy => by
  match i, hy with
  | 0, hy => cases hy; exact ⟨z, 0, ⟨none, 0, 0⟩, rfl, h3.lt, h3.at_ 0 _ rfl, rfl, Nat.le_refl _, by simp, fun j u hu => by simp at hu⟩
  | _ + 1, hy => simp at hy⟩
 refine ⟨⟨Vm.ri_of (l := Vm.c1) (by decide) (fun i x hx => ?_) h1.lt, hf, hz⟩, ⟨Vm.ri_of (l := Vm.c2) (by decide) (fun i x hx => ?_) h1.lt, hf, hz⟩⟩
 · match i, hx with
   | 0, hx => cases hx; exact ⟨h1.at_ 0 _ rfl, h1.at_ 1 _ rfl, h1.at_ 2 _ rfl⟩
   | 1, hx => cases hx; exact ⟨h1.at_ 3 _ rfl, h1.at_ 4 _ rfl, h1.at_ 5 _ rfl⟩
   | 2, hx => cases hx; exact ⟨h1.at_ 6 _ rfl, h1.at_ 7 _ rfl, h1.at_ 8 _ rfl⟩
   | _ + 3, hx => simp [Vm.c1] at hx
 · match i, hx with
   | 0, hx => cases hx; exact ⟨h1.at_ 3 _ rfl, h1.at_ 4 _ rfl, h1.at_ 5 _ rfl⟩
   | 1, hx => cases hx; exact ⟨h1.at_ 6 _ rfl, h1.at_ 7 _ rfl, h1.at_ 8 _ rfl⟩
   | _ + 2, hx => simp [Vm.c2] at hx
theorem Vm.four (w : World) (a b c d : Array Value) (ta tb tc td : TypeId) : Vm.Bx ((((w.alloc (.cells a ta)).alloc (.cells b tb)).alloc (.cells c tc)).alloc (.cells d td)) w.heap.size a.toList ∧ Vm.Bx ((((w.alloc (.cells a ta)).alloc (.cells b tb)).alloc (.cells c tc)).alloc (.cells d td)) (w.heap.size + 1) b.toList ∧ Vm.Bx ((((w.alloc (.cells a ta)).alloc (.cells b tb)).alloc (.cells c tc)).alloc (.cells d td)) (w.heap.size + 1 + 1) c.toList ∧ Vm.Bx ((((w.alloc (.cells a ta)).alloc (.cells b tb)).alloc (.cells c tc)).alloc (.cells d td)) (w.heap.size + 1 + 1 + 1) d.toList ∧ Below w.heap.size w ((((w.alloc (.cells a ta)).alloc (.cells b tb)).alloc (.cells c tc)).alloc (.cells d td)) := by
 have s : ∀ (v : World) (o : Obj), (v.alloc o).heap.size = v.heap.size + 1 := fun v o => by simp
 have k : ∀ (v : World) (o : Obj), Below v.heap.size v (v.alloc o) := fun v o => (Below.refl _ _).alloc (Nat.le_refl _) o
 have h1 := Vm.Bx.new (heap_alloc_new w (.cells a ta))
 have h2 := Vm.Bx.new (heap_alloc_new (w.alloc (.cells a ta)) (.cells b tb))
 have h3 := Vm.Bx.new (heap_alloc_new ((w.alloc (.cells a ta)).alloc (.cells b tb)) (.cells c tc))
 have h4 := Vm.Bx.new (heap_alloc_new (((w.alloc (.cells a ta)).alloc (.cells b tb)).alloc (.cells c tc)) (.cells d td))
 have k1 := k w (.cells a ta)
 have k2 := k (w.alloc (.cells a ta)) (.cells b tb)
 have k3 := k ((w.alloc (.cells a ta)).alloc (.cells b tb)) (.cells c tc)
 have k4 := k (((w.alloc (.cells a ta)).alloc (.cells b tb)).alloc (.cells c tc)) (.cells d td)
 have e1 := h1.kept k2.size (k2.block _ h1.lt)
 have e1 := e1.kept k3.size (k3.block _ e1.lt)
 have e1 := e1.kept k4.size (k4.block _ e1.lt)
 have e2 := h2.kept k3.size (k3.block _ h2.lt)
 have e2 := e2.kept k4.size (k4.block _ e2.lt)
 have e3 := h3.kept k4.size (k4.block _ h3.lt)
 rw [s] at e2
 rw [s, s] at e3
 rw [s, s, s] at h4
 have kk := k1.trans (k2.mono k1.size)
 have kk := kk.trans (k3.mono kk.size)
 exact ⟨e1, e2, e3, h4, kk.trans (k4.mono kk.size)⟩
theorem Vm.nil_rn (W : World) : Pg.RN W ⟨none, 0, 0⟩ [] := ⟨rfl, Nat.le_refl _, by simp, fun j u hu => by simp at hu⟩
theorem vmBegun_any (w : World) :
  Calls Tryz.prog 9 #[] w fun r w' => r = .returned (.bool true) ∧ Below w.heap.size w w' := by
 have HR1 := hide (fun (V : World) (g f z : Nat) (hco : Kd.RCo V ⟨some ⟨g, 0, none⟩, 3, 3⟩ ⟨some ⟨f, 0, none⟩, 1, 1⟩ ⟨some ⟨z, 0, none⟩, 1, 1⟩ Vm.c1 [0] [[]]) => show Calls Tryz.prog 5 #[.agg #[.slice (some ⟨g, 0, none⟩) 3 3, .slice (some ⟨f, 0, none⟩) 1 1, .slice (some ⟨z, 0, none⟩) 1 1], .slice none 0 0, .int .i64 0] V fun r w' => ∃ a cp, r = .returned (.tuple #[.slice a 2 cp, .bool true, .int .i64 0]) ∧ Cl.RE w' a Vm.t1 ∧ Below V.heap.size V w' from by
  have h := vRun_any ⟨some ⟨g, 0, none⟩, 3, 3⟩ ⟨some ⟨f, 0, none⟩, 1, 1⟩ ⟨some ⟨z, 0, none⟩, 1, 1⟩ Vm.c1 [0] [[]] ⟨none, 0, 0⟩ [] 0 V hco (Vm.nil_rn V)
  rw [Vm.c1_ans] at h
  refine h.mono ?_
  rintro r w' ⟨a, cp, h1, h2, h3⟩
  exact ⟨a, cp, h1, Xr.re_own rfl h2, h3⟩)
 have HR2 := hide (fun (V : World) (g f z : Nat) (hco : Kd.RCo V ⟨some ⟨g, 3, none⟩, 2, 2⟩ ⟨some ⟨f, 0, none⟩, 1, 1⟩ ⟨some ⟨z, 0, none⟩, 1, 1⟩ Vm.c2 [0] [[]]) => show Calls Tryz.prog 5 #[.agg #[.slice (some ⟨g, 3, none⟩) 2 2, .slice (some ⟨f, 0, none⟩) 1 1, .slice (some ⟨z, 0, none⟩) 1 1], .slice none 0 0, .int .i64 0] V fun r w' => ∃ a cp, r = .returned (.tuple #[.slice a 0 cp, .bool false, .int .i64 0]) ∧ Below V.heap.size V w' from by
  have h := vRun_any ⟨some ⟨g, 3, none⟩, 2, 2⟩ ⟨some ⟨f, 0, none⟩, 1, 1⟩ ⟨some ⟨z, 0, none⟩, 1, 1⟩ Vm.c2 [0] [[]] ⟨none, 0, 0⟩ [] 0 V hco (Vm.nil_rn V)
  rw [Vm.c2_ans] at h
  refine h.mono ?_
  rintro r w' ⟨a, cp, h1, h2, h3⟩
  exact ⟨a, cp, h1, h3⟩)
 have HSE := hide (fun (V : World) (a b : Option Addr) (c d : Nat) (hr : Cl.RE V a Vm.t1) (hr2 : Cl.RE V b Vm.t1) => show Calls Tryz.prog 15 #[.slice a 2 c, .slice b 2 d] V fun e w' => e = .returned (.bool true) ∧ Below V.heap.size V w' from SameEvents_eq Vm.t1 a b c d V hr hr2 (by show 2 ≤ 4000; omega))
 go_enter Tryz.func9, Tryz.ntmps9
 go_upto_region 2 with fail
 have h4 := Vm.four w #[.int .i64 2, .int .i64 3, .int .i64 0, .int .i64 9, .int .i64 0, .int .i64 0, .int .i64 14, .int .i64 0, .int .i64 0] #[.int .i64 0] #[.slice none 0 0] #[.slice (some ⟨w.heap.size, 0, none⟩) 3 3, .slice (some ⟨w.heap.size + 1, 0, none⟩) 1 1, .slice (some ⟨w.heap.size + 1 + 1, 0, none⟩) 1 1] 54 3 23 26
 generalize (((w.alloc (Obj.cells #[.int .i64 2, .int .i64 3, .int .i64 0, .int .i64 9, .int .i64 0, .int .i64 0, .int .i64 14, .int .i64 0, .int .i64 0] 54)).alloc (Obj.cells #[.int .i64 0] 3)).alloc (Obj.cells #[.slice none 0 0] 23)).alloc (Obj.cells #[.slice (some ⟨w.heap.size, 0, none⟩) 3 3, .slice (some ⟨w.heap.size + 1, 0, none⟩) 1 1, .slice (some ⟨w.heap.size + 1 + 1, 0, none⟩) 1 1] 26) = V1 at *
 obtain ⟨x1, x2, x3, x4, hb1⟩ := h4
 have hco := Vm.c_rco x1 x2 x3
 have HC1 := hide ((unhide HR1) _ _ _ _ hco.1)
 have d0 := x4.at_ 0 _ rfl
 have d1 := x4.at_ 1 _ rfl
 have d2 := x4.at_ 2 _ rfl
 have HMB := hide (show ∀ V, Below V1.heap.size V1 V → V.cell? ⟨w.heap.size + 1 + 1 + 1, 0, none⟩ = some (.slice (some ⟨w.heap.size, 0, none⟩) 3 3) ∧ V.cell? ⟨w.heap.size + 1 + 1 + 1, 1, none⟩ = some (.slice (some ⟨w.heap.size + 1, 0, none⟩) 1 1) ∧ V.cell? ⟨w.heap.size + 1 + 1 + 1, 2, none⟩ = some (.slice (some ⟨w.heap.size + 1 + 1, 0, none⟩) 1 1) from fun V hV => ⟨(Xr.cell_kept (hV.block _ x4.lt) 0).trans d0, (Xr.cell_kept (hV.block _ x4.lt) 1).trans d1, (Xr.cell_kept (hV.block _ x4.lt) 2).trans d2⟩)
 have HB1 := hide hb1
 have HCO := hide hco.2
 clear x1 x2 x3 x4 hco hb1 HR1
 go_wp2_with fail
 refine (unhide HC1).mono ?_
 rintro r2 w2 ⟨a2, cp2, rfl, hr2, hb2⟩
 have HB2 := hide ((unhide HB1).trans (hb2.mono (unhide HB1).size))
 have HV2 := hide hb2
 have HT2 := hide hr2
 have HM2 := hide ((unhide HMB) _ hb2.drew)
 have HC2 := hide (fun (V : World) (hV : Below V1.heap.size V1 V) => (unhide HR2) V _ _ _ ((unhide HCO).later hV (Nat.le_refl _)))
 clear hb2 hr2 d0 d1 d2 HC1 HR2
 go_upto_region 3 with fail
 go_cut [6, 7] (fun v h V => v = .bool false ∧ h = .int .i64 0 ∧ Below w2.heap.size w2 V)
 case first =>
  go_region_held3 (fun V => V.cell? ⟨w.heap.size + 1 + 1 + 1, 0, none⟩ = some (.slice (some ⟨w.heap.size, 0, none⟩) 3 3) ∧ V.cell? ⟨w.heap.size + 1 + 1 + 1, 1, none⟩ = some (.slice (some ⟨w.heap.size + 1, 0, none⟩) 1 1) ∧ V.cell? ⟨w.heap.size + 1 + 1 + 1, 2, none⟩ = some (.slice (some ⟨w.heap.size + 1 + 1, 0, none⟩) 1 1))
   (first | assumption | exact unhide HM2 | exact unhide HM3)
   (first | (go_at_call 5; refine ((unhide HC2) _ ?_).mono ?_; exact (unhide HV2).drew; rintro r3 w3 ⟨a3, cp3, rfl, hb3⟩; have HM3 := hide ((unhide HMB) _ ((unhide HV2).drew.trans (hb3.mono (unhide HV2).drew.size))); have HB3 := hide ((Below.refl w2.heap.size w2).drew.trans hb3); clear hb3))
  all_goals
   go_wp2_with fail
   go_meet
   case rel => exact ⟨rfl, rfl, unhide HB3⟩
 case rest =>
  rename World => W3
  obtain ⟨rfl, rfl, hb3⟩ := hcut
  have HB3 := hide ((unhide HB2).trans (hb3.mono (unhide HB2).size))
  have HT3 := hide ((unhide HT2).later hb3 (Nat.le_refl _))
  have hba := (Below.refl W3.heap.size W3).alloc (Nat.le_refl _) (Obj.cells #[.int .i64 4, .int .i64 0, .int .i64 (-1), .int .i64 0, .int .i64 0, .int .i64 3, .int .i64 7, .int .i64 0, .int .i64 (-1), .int .i64 0, .int .i64 0, .int .i64 0] 63)
  have hxe := Vm.Bx.new (heap_alloc_new W3 (Obj.cells #[.int .i64 4, .int .i64 0, .int .i64 (-1), .int .i64 0, .int .i64 0, .int .i64 3, .int .i64 7, .int .i64 0, .int .i64 (-1), .int .i64 0, .int .i64 0, .int .i64 0] 63))
  have hre : Cl.RE (W3.alloc (Obj.cells #[.int .i64 4, .int .i64 0, .int .i64 (-1), .int .i64 0, .int .i64 0, .int .i64 3, .int .i64 7, .int .i64 0, .int .i64 (-1), .int .i64 0, .int .i64 0, .int .i64 0] 63)) (some ⟨W3.heap.size, 0, none⟩) Vm.t1 := ⟨fun i x hx => by
   match i, hx with
   | 0, hx => cases hx; exact ⟨W3.heap.size, 0, rfl, hxe.lt, hxe.at_ 0 _ rfl, hxe.at_ 1 _ rfl, hxe.at_ 2 _ rfl, hxe.at_ 3 _ rfl, hxe.at_ 4 _ rfl, hxe.at_ 5 _ rfl⟩
   | 1, hx => cases hx; exact ⟨W3.heap.size, 0, rfl, hxe.lt, hxe.at_ 6 _ rfl, hxe.at_ 7 _ rfl, hxe.at_ 8 _ rfl, hxe.at_ 9 _ rfl, hxe.at_ 10 _ rfl, hxe.at_ 11 _ rfl⟩
   | _ + 2, hx => simp [Vm.t1] at hx⟩
  have HS := hide ((unhide HSE) _ a2 (some ⟨W3.heap.size, 0, none⟩) cp2 2 ((unhide HT3).later hba (Nat.le_refl _)) hre)
  have HBA := hide ((unhide HB3).trans (hba.mono (unhide HB3).size))
  clear hb3 hba hxe hre HSE
  go_wp2_with fail
  refine (unhide HS).mono ?_
  rintro r5 w5 ⟨rfl, hb5⟩
  have HB5 := hide ((unhide HBA).trans (hb5.mono (unhide HBA).size))
  clear hb5
  go_wp2_with fail
  go_ret
  exact ⟨rfl, unhide HB5⟩
end Go.Proofs.YtpfogjplnodacaaGreat
