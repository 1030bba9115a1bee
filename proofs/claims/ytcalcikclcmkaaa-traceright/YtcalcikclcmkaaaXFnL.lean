/-
  Several texts in one: XFn, XCallL. By the verifier.
-/
import Derived.Test.YtcalcikclcmkaaaXCmds
set_option maxRecDepth 100000
set_option maxHeartbeats 3200000
namespace Go.Proofs.Ytcalcikclcmkaaa
open Go.RowKit
set_option linter.unusedVariables false
section
variable {m n : Nat} {w0 : World} {br : Nat} {fs : Pg.Sl} {p : List (Pg.FT m n)}
theorem Xr.PP.parts (h : Xr.PP w0 fs p) {q : Nat} {x : Pg.FT m n} (hx : p[q]? = some x) : Pg.whead (decide (q + 1 = p.length)) x.params x.sizes = 0 ∧ Pg.wcs p q x n x.cmds = 0 ∧ Pg.wres (decide (q + 1 = p.length)) m n x = 0 := by
 obtain ⟨h1, h2⟩ := Pg.orW_zero (show Pg.orW _ (Pg.orW _ _) = 0 from h.ok q x hx)
 obtain ⟨h3, h4⟩ := Pg.orW_zero h2
 exact ⟨h1, h3, h4⟩
theorem Xr.PP.first (h : Xr.PP w0 fs p) {q : Nat} {x : Pg.FT m n} (hx : p[q]? = some x) : Xr.firstOf p q + Pg.cnts x.cmds ≤ 40 := by
 have h1 := Pg.sumTo_succ (fun f : Pg.FT m n => Pg.cnts f.cmds) p q x hx
 have h2 := Pg.sumTo_le (fun f : Pg.FT m n => Pg.cnts f.cmds) p (q + 1) (List.getElem?_eq_some_iff.1 hx).1
 have h3 := h.cnt
 have h4 : Xr.firstOf p q = Pg.sumTo (fun f : Pg.FT m n => Pg.cnts f.cmds) p q := rfl
 omega
theorem function_any (d : Nat) (hpp : Xr.PP w0 fs p) (hcs : ∀ j, Xr.CmdsOk w0 br fs p d j) (q : Nat) (x : Pg.FT m n) (hx : p[q]? = some x) (W : World) (s : Xr.S) (ev : Value) (bf : Nat) (gv : Option Nat) (vb : List Nat) (f : Xr.F)
  (h : Xr.J w0 W br fs s ev bf gv vb f) (hsh : Xr.Sh f.vs x.sizes) (hd : f.deep + d = 5) (hinv : Xr.Inv s 0) :
  Calls Try.prog 71 #[.pointer (some ⟨br, 0, none⟩), .pointer (some ⟨bf, 0, none⟩), .int .i64 (q : Nat)] W (Xr.Post w0 br fs x.sizes bf gv vb W ev s f (Xr.fn p (Xr.call p d) q s f)) := by
 have hlen := hpp.rp.len
 have hcap := hpp.rp.cap
 have hfew := hpp.few
 have hql : q < p.length := (List.getElem?_eq_some_iff.1 hx).1
 have hfi := hpp.first hx
 have HT := hide (show Xr.fn p (Xr.call p d) q s f = Xr.cmds (Xr.call p d) n x.cmds (Xr.firstOf p q) s f by unfold Xr.fn; rw [hx])
 obtain ⟨bq, oq, fq, hadq, hbq, hlq, hrq⟩ := hpp.rp.at_ q x hx
 have HCS := hide (fun (V : World) (hJ : Xr.J w0 V br fs s ev bf gv vb f) => hcs n q x hx fq.cmds x.cmds (Xr.firstOf p q) V s ev bf gv vb f hJ hrq.cmds (hpp.parts hx).2.1 hsh hd hinv (by omega))
 have HLE := hide (Pg.sumTo_le (fun f : Pg.FT m n => Pg.cnts f.cmds) p)
 have hcn := hpp.cnt
 have HCT := hide (fun (i : Nat) (y : Pg.FT m n) (hy : p[i]? = some y) => Pg.sumTo_succ (fun f : Pg.FT m n => Pg.cnts f.cmds) p i y hy)
 have HFI := hide (show Xr.firstOf p q = Pg.sumTo (fun f : Pg.FT m n => Pg.cnts f.cmds) p q from rfl)
 have c0 := h.m.c0
 have HJ := hide h
 have HPP := hide hpp
 have HLQ := hide (And.intro hlq hbq)
 generalize Xr.fn p (Xr.call p d) q s f = T at *
 generalize Xr.cmds (Xr.call p d) n x.cmds (Xr.firstOf p q) s f = T2 at *
 generalize hff : Xr.firstOf p q = FQ at *
 generalize Pg.cnts x.cmds = CX at *
 generalize (p.map (fun f => Pg.cnts f.cmds)).sum = SC at *
 obtain ⟨fa, fl, fc⟩ := fs
 have hfa : fa = some ⟨bq, oq, none⟩ := hadq
 subst hfa
 have hlen2 : fl = p.length := hlen
 have hcap2 : fl ≤ fc := hcap
 have hl6 : fl ≤ 6 := by omega
 have HLN := hide hlen2
 have hqf : q < fl := by omega
 clear hlen hcap hfew hx hpp hlq hrq hcs h hsh hd hinv hadq hff hbq hlen2 hql
 dsimp only at *
 have hi9 : (0 : Int) ≤ (q : Int) := by omega
 have hi8 : (q : Int) ≤ (fl : Int) := by omega
 have hi7 : (q : Int) ≤ (fc : Int) := by omega
 have hi6 : (q : Int) < (fl : Int) := by omega
 go_enter Try.func71, Try.ntmps71
 go_upto_block 0 with fail
 go_cut [6] (fun nv V => nv = .int .i64 ((FQ : Nat) : Int) ∧ Below W.heap.size W V)
 case first =>
  go_wp2_with fail
  go_loopw [6, 16] (fun nv iv wr => ∃ (i k : Nat), i ≤ q ∧ iv = .int .i64 i ∧ nv = .int .i64 ((k : Nat) : Int) ∧ k ≤ 40 ∧ Hid (k = Pg.sumTo (fun f : Pg.FT m n => Pg.cnts f.cmds) p i) ∧ Below W.heap.size W wr) (fun _ iv _ => q - (intOf iv).toNat)
  case atStart => exact ⟨0, 0, Nat.zero_le _, rfl, rfl, by omega, by show _ = _; rfl, Below.refl _ _⟩
  case round =>
   obtain ⟨i, k, hi, rfl, rfl, hk, hkk, hbe⟩ := hrel
   have HK := hide (unhide hkk)
   have HBE := hide hbe
   clear hkk
   by_cases hlt : i < q
   · have hlt2 : i < p.length := by have := unhide HLN; omega
     have hy := List.getElem?_eq_getElem hlt2
     obtain ⟨b, o, g, had, hb, hlies, hrd⟩ := (unhide HPP).rp.at_ i _ hy
     cases had
     have hsu := (unhide HCT) i _ hy
     have hle := (unhide HLE) (i + 1) (by omega)
     generalize p[i] = y at *
     have hbw := (unhide HJ).m.bel.trans (hbe.mono (unhide HJ).m.bel.size)
     obtain ⟨p0, p1, p2, p3, p4, p5⟩ := hlies.later hbw (Nat.le_refl _) hb
     have hal := (Below.refl wr.heap.size wr).alloc (Nat.le_refl _) (Obj.cells #[.int .i64 g.params, .slice g.sizes.ad g.sizes.len g.sizes.cap, .slice g.cmds.ad g.cmds.len g.cmds.cap, .int .i64 g.res.k, .int .i64 g.res.n, .slice g.res.args.ad g.res.args.len g.res.args.cap] 78)
     have hkc : k + Pg.cnts y.cmds ≤ 40 := by have := unhide HK; omega
     have HKN := hide (show k + Pg.cnts y.cmds = Pg.sumTo (fun f : Pg.FT m n => Pg.cnts f.cmds) p (i + 1) by have := unhide HK; omega)
     have HCC := hide (count_any n g.cmds y.cmds _ (hrd.cmds.laterC (hbw.trans (hal.mono hbw.size)) (Nat.le_refl _)) (by omega))
     have HBA := hide (hbe.trans (hal.mono hbe.size))
     generalize Pg.cnts y.cmds = CY at *
     clear hlies hrd hy hsu hle hbw hal hbe hb
     have hi0 : (0 : Int) ≤ (i : Int) := by omega
     have hi1 : (i : Int) < (q : Int) := by omega
     go_wp2_with fail
     refine (unhide HCC).mono ?_
     rintro r w5 ⟨rfl, hb5⟩
     have HB5 := hide ((unhide HBA).trans (hb5.mono (unhide HBA).size))
     clear hb5
     go_wp2_with fail
     exact ⟨⟨i + 1, k + CY, by omega, by go_num, by go_num, hkc, by show _ = _; exact unhide HKN, unhide HB5⟩, by simp [intOf]; omega⟩
   · have hiq : i = q := by omega
     subst hiq
     have HKF := hide (show k = FQ by rw [unhide HK, unhide HFI])
     clear hbe
     go_wp2_with fail
     go_meet
     case rel => exact ⟨by rw [unhide HKF], unhide HBE⟩
 case rest =>
  rename World => W2
  obtain ⟨rfl, hb2⟩ := hcut
  have hJ2 := (unhide HJ).below hb2
  have l2 := ((unhide HLQ).1.later hJ2.m.bel (Nat.le_refl _) (unhide HLQ).2).c2
  have k0 := hJ2.m.c0
  have HC2 := hide ((unhide HCS) W2 hJ2)
  have HK2 := hide (Xr.Kp.below (br := br) (ev := ev) (ws := Xr.ws bf vb) hb2)
  have k0 : W2.cell? ⟨br, 0, none⟩ = some (.slice (some ⟨bq, oq, none⟩) fl fc) := k0
  clear hb2 hJ2 c0
  go_wp2_with fail
  refine (unhide HC2).mono ?_
  rintro r w3 ⟨rfl, ev3, hJ3, hk3, h5, h6, h7, h8⟩
  have HP := hide (show Xr.Post w0 br ⟨some ⟨bq, oq, none⟩, fl, fc⟩ x.sizes bf gv vb W ev s f T (.returned (.tuple #[])) w3 from by
   rw [unhide HT]
   exact ⟨rfl, ev3, hJ3, (unhide HK2).trans hk3, h5, h6, h7, h8⟩)
  clear hJ3 hk3 h5 h6 h7 h8
  go_wp2_with fail
  go_end0
  exact unhide HP
end
end Go.Proofs.Ytcalcikclcmkaaa
namespace Go.Proofs.Ytcalcikclcmkaaa
open Go.RowKit
set_option linter.unusedVariables false
theorem Xr.Kp.over {br : Nat} {e1 e2 e3 : Value} {ws ws' : List Nat} {W V V' : World} (h : Xr.Kp br e1 e2 ws W V) (k : Xr.Kp br e2 e3 ws' V V') (hw : ∀ q ∈ ws', W.heap.size ≤ q) : Xr.Kp br e1 e3 ws W V' := by
 refine ⟨k.os.trans h.os, k.tape.trans h.tape, k.output.trans h.output, Nat.le_trans h.size k.size, fun q h1 h2 h3 h4 => ?_, ?_⟩
 · have he : e2.ownBlock ≠ some q := by
    rcases h.evs with e | e
    · rw [e]; exact h3
    · intro hq; have := e q hq; omega
   exact (k.block q (Nat.lt_of_lt_of_le h1 h.size) h2 he (fun hq => by have := hw q hq; omega)).trans (h.block q h1 h2 h3 h4)
 · rcases k.evs with e | e
   · rcases h.evs with f | f
     · exact .inl (e.trans f)
     · exact .inr fun q hq => f q (by rw [← e]; exact hq)
   · exact .inr fun q hq => Nat.le_trans h.size (e q hq)
structure Xr.Ca (w0 W W1 : World) (br : Nat) (fs : Pg.Sl) (bf : Nat) (gv : Option Nat) (vb : List Nat) (f : Xr.F) (ev : Value) (V : World) (s : Xr.S) (ev2 av : Value) (zs : List Int) : Prop where
 j : Xr.J w0 V br fs s ev2 bf gv vb f
 k : Xr.Kp br ev ev2 (Xr.ws bf vb) W V
 b : V.heap[W.heap.size]? = W1.heap[W.heap.size]?
 sf : Xr.Sf V br ev2 W.heap.size
 row : V.ownsRow (W.heap.size + 1) 3 1 av zs.length (zs.map (Value.int .i64))
 asf : ∀ q, av.ownBlock = some q → Xr.Sf V br ev2 q ∧ q ∉ Xr.own bf gv vb
 h0 : w0.heap.size ≤ W.heap.size
section
variable {w0 W W1 : World} {br : Nat} {fs : Pg.Sl} {bf : Nat} {gv : Option Nat} {vb : List Nat} {f : Xr.F} {ev : Value} {V V' : World} {s s' : Xr.S} {ev2 ev3 av : Value} {zs : List Int}
theorem Xr.Ca.move (h : Xr.Ca w0 W W1 br fs bf gv vb f ev V s ev2 av zs) {ws' : List Nat} (hm : Xr.M w0 V' br fs s' ev3) (hk : Xr.Kp br ev2 ev3 ws' V V') (hw : ∀ q ∈ ws', W.heap.size < q ∧ q ∉ Xr.own bf gv vb ∧ av.ownBlock ≠ some q) : Xr.Ca w0 W W1 br fs bf gv vb f ev V' s' ev3 av zs := by
 have hbw : W.heap.size ∉ ws' := fun e => by have := (hw _ e).1; omega
 have hs := hk.safe h.sf hbw
 refine ⟨h.j.told hm hk (fun q hq => (hw q hq).2.1), h.k.over hk (fun q hq => by have := (hw q hq).1; omega), hs.2.trans h.b, hs.1, Xr.ow_kept h.row (fun q hq => ?_), fun q hq => ⟨?_, (h.asf q hq).2⟩, h.h0⟩
 · exact (hk.safe (h.asf q hq).1 (fun e => (hw q e).2.2 hq)).2
 · exact (hk.safe (h.asf q hq).1 (fun e => (hw q e).2.2 hq)).1
theorem Xr.Ca.tell (h : Xr.Ca w0 W W1 br fs bf gv vb f ev V s ev2 av zs) (hm : Xr.M w0 V' br fs s' ev3) (hk : Xr.Kp br ev2 ev3 [] V V') : Xr.Ca w0 W W1 br fs bf gv vb f ev V' s' ev3 av zs := h.move hm hk (fun q hq => by cases hq)
theorem Xr.Ca.below (h : Xr.Ca w0 W W1 br fs bf gv vb f ev V s ev2 av zs) (hb : Below V.heap.size V V') : Xr.Ca w0 W W1 br fs bf gv vb f ev V' s ev2 av zs := h.tell (h.j.m.below hb) (Xr.Kp.below hb)
theorem Xr.Ca.form (h : Xr.Ca w0 W W1 br fs bf gv vb f ev V s ev2 av zs) : ∃ a c, av = .slice a zs.length c := by
 rcases h.row.2 with ⟨h1, h2⟩ | ⟨g, cap, cur, hv, _⟩
 · exact ⟨none, 0, by rw [h2]; exact h1⟩
 · exact ⟨_, _, hv⟩
theorem Xr.Ca.lt (h : Xr.Ca w0 W W1 br fs bf gv vb f ev V s ev2 av zs) : W.heap.size < V.heap.size := h.sf.lt
theorem Xr.Ca.app (h : Xr.Ca w0 W W1 br fs bf gv vb f ev V s ev2 av zs) {V2 w6 : World} (hb : Below V.heap.size V V2) (hg : V2.grownBy w6 av.ownBlock) (z : Int) (g c : Nat) (ho : w6.ownsRow (W.heap.size + 1) 3 1 (.slice (some ⟨g, 0, none⟩) (zs.length + 1) c) (zs.length + 1) (zs.map (Value.int .i64) ++ [.int .i64 z])) (hat : av.ownBlock = some g ∨ g = V2.heap.size) :
  Xr.Ca w0 W W1 br fs bf gv vb f ev w6 s ev2 (.slice (some ⟨g, 0, none⟩) (zs.length + 1) c) (zs ++ [z]) := by
 have h2 := h.below hb
 have hgl : g < w6.heap.size := (ho.lt g rfl).2
 have hkp : ∀ q, q < V2.heap.size → av.ownBlock ≠ some q → w6.heap[q]? = V2.heap[q]? := fun q hq hne => hg.block q hq (fun e => hne e.symm)
 have hav : ∀ q, av.ownBlock = some q → W.heap.size + 1 ≤ q := fun q hq => (h.row.lt q hq).1
 have hbr := h2.j.m.lt
 have kbr : w6.heap[br]? = V2.heap[br]? := hkp br hbr (fun e => (h2.asf br e).1.br rfl)
 have kev : ∀ q, ev2.ownBlock = some q → w6.heap[q]? = V2.heap[q]? := fun q hq => hkp q (h2.j.m.ev_lt q hq).2 (fun e => (h2.asf q e).1.ev hq)
 have kow : ∀ q ∈ Xr.own bf gv vb, w6.heap[q]? = V2.heap[q]? := fun q hq => hkp q (h2.j.fm.hge q hq).2 (fun e => (h2.asf q e).2 hq)
 have hbl : Below w0.heap.size w0 w6 := ⟨hg.os.trans h2.j.m.bel.os, hg.tape.trans h2.j.m.bel.tape, hg.output.trans h2.j.m.bel.output, Nat.le_trans h2.j.m.bel.size hg.size, fun q hq => by
  have h5 := h2.j.m.bel.size
  refine (hkp q (by omega) (fun e => ?_)).trans (h2.j.m.bel.block q hq)
  have h3 := hav q e
  have := h.h0
  omega⟩
 refine ⟨⟨h2.j.m.kept hbl kbr kev, h2.j.fm.kept hg.size kow, h2.j.nbr, h2.j.nev⟩, ⟨hg.os.trans h2.k.os, hg.tape.trans h2.k.tape, hg.output.trans h2.k.output, Nat.le_trans h2.k.size hg.size, fun q h1 h3 h4 h5 => (hkp q (by have := h2.k.size; omega) (fun e => by have := hav q e; omega)).trans (h2.k.block q h1 h3 h4 h5), h2.k.evs⟩, (hkp _ h2.sf.lt (fun e => by have := hav _ e; omega)).trans h2.b, ⟨by have := h2.sf.lt; have := hg.size; omega, h2.sf.br, h2.sf.ev⟩, ?_, ?_, h.h0⟩
 · rw [List.length_append, List.map_append]
   exact ho
 · intro q hq
   cases hq
   show Xr.Sf w6 br ev2 g ∧ g ∉ Xr.own bf gv vb
   rcases hat with e | e
   · have := h2.asf g e
     exact ⟨⟨hgl, this.1.br, this.1.ev⟩, this.2⟩
   · refine ⟨⟨hgl, by omega, fun e2 => by have := (h2.j.m.ev_lt g e2).2; omega⟩, fun hin => by have := (h2.j.fm.hge g hin).2; omega⟩
structure Xr.Cg (w0 W W1 : World) (br : Nat) (fs : Pg.Sl) (bf : Nat) (gv : Option Nat) (vb : List Nat) (f : Xr.F) (ev : Value) (V : World) (s : Xr.S) (ev2 av : Value) (zs : List Int) (bg : Nat) (gg : Option Nat) (gb : List Nat) (g : Xr.F) : Prop where
 ca : Xr.Ca w0 W W1 br fs bf gv vb f ev V s ev2 av zs
 jg : Xr.J w0 V br fs s ev2 bg gg gb g
 ge : ∀ q ∈ Xr.own bg gg gb, W.heap.size < q ∧ q ∉ Xr.own bf gv vb ∧ av.ownBlock ≠ some q
variable {bg : Nat} {gg : Option Nat} {gb : List Nat} {g g' : Xr.F}
theorem Xr.Cg.act (h : Xr.Cg w0 W W1 br fs bf gv vb f ev V s ev2 av zs bg gg gb g) (hJ : Xr.J w0 V' br fs s' ev3 bg gg gb g') (hk : Xr.Kp br ev2 ev3 (Xr.ws bg gb) V V') : Xr.Cg w0 W W1 br fs bf gv vb f ev V' s' ev3 av zs bg gg gb g' :=
 ⟨h.ca.move hJ.m hk (fun q hq => h.ge q (Xr.ws_own hq)), hJ, h.ge⟩
theorem Xr.Cg.tell (h : Xr.Cg w0 W W1 br fs bf gv vb f ev V s ev2 av zs bg gg gb g) (hm : Xr.M w0 V' br fs s' ev3) (hk : Xr.Kp br ev2 ev3 [] V V') : Xr.Cg w0 W W1 br fs bf gv vb f ev V' s' ev3 av zs bg gg gb g :=
 ⟨h.ca.tell hm hk, h.jg.told hm hk (fun q hq => by cases hq), h.ge⟩
theorem Xr.Cg.below (h : Xr.Cg w0 W W1 br fs bf gv vb f ev V s ev2 av zs bg gg gb g) (hb : Below V.heap.size V V') : Xr.Cg w0 W W1 br fs bf gv vb f ev V' s ev2 av zs bg gg gb g := h.tell (h.ca.j.m.below hb) (Xr.Kp.below hb)
theorem Xr.Ca.made (h : Xr.Ca w0 W W1 br fs bf gv vb f ev V s ev2 av zs) (hb : Below V.heap.size V V') (hf : Xr.Fm w0 V' bg gg gb g) (hg : ∀ q ∈ Xr.own bg gg gb, V.heap.size ≤ q) : Xr.Cg w0 W W1 br fs bf gv vb f ev V' s ev2 av zs bg gg gb g := by
 have h2 := h.below hb
 refine ⟨h2, ⟨h2.j.m, hf, fun e => by have := hg _ e; have := h.j.m.lt; omega, fun q hq e => by have := hg _ e; have := (h.j.m.ev_lt q hq).2; omega⟩, fun q hq => ⟨by have := hg q hq; have := h.lt; omega, fun e => by have := hg q hq; have := (h.j.fm.hge q e).2; omega, fun e => by have := hg q hq; have := (h.asf q e).1.lt; omega⟩⟩
theorem Xr.Ca.cell (h : Xr.Ca w0 W W1 br fs bf gv vb f ev V s ev2 av zs) {i : Nat} {z : Int} (hz : zs[i]? = some z) : ∃ ga c, av = .slice (some ⟨ga, 0, none⟩) zs.length c ∧ V.cell? ⟨ga, i, none⟩ = some (.int .i64 z) := by
 obtain ⟨ga, c, hv, _, _⟩ := h.row.form (by have := (List.getElem?_eq_some_iff.1 hz).1; omega)
 have hr := h.row
 rw [hv] at hr
 have hc := hr.cells (g := ga) rfl i (.int .i64 z) (by rw [List.getElem?_map, hz]; rfl)
 rw [Xr.add_at] at hc
 exact ⟨ga, c, hv, hc⟩
end
end Go.Proofs.Ytcalcikclcmkaaa
