/-
  The contract of the compiler's function. By the verifier.
-/
import Derived.Test.YtpfogjplnodacaaKFun
import Derived.Test.YtpfogjplnodacaaKCmds
import Derived.Deep.RegionLaw
import Derived.Deep.Cut
set_option maxRecDepth 100000
set_option maxHeartbeats 3200000
namespace Go.Proofs.Ytpfogjplnodacaa
open Go.RowKit
set_option linter.unusedVariables false
section
variable {m n : Nat} {w0 : World} {bc : Nat} {p : List (Pg.FT m n)}
theorem Kd.M.slc {W : World} {rv : Value} {l : List Kd.I} {a : Nat} (h : Kd.M w0 W bc rv l a) : ∃ g c, rv = .slice g l.length c := by
 obtain ⟨g, c, h1, _⟩ := h.form
 exact ⟨g, c, h1⟩
theorem Kd.row_slc {W : World} {B : Nat} {t : TypeId} {z n : Nat} {v : Value} {xs : List Value} (h : W.ownsRow B t z v n xs) : ∃ g c, v = .slice g n c := by
 rcases h.2 with ⟨h1, h2⟩ | ⟨g, cap, cur, hv, _⟩
 · exact ⟨none, 0, by rw [h2]; exact h1⟩
 · exact ⟨_, _, hv⟩
theorem kfn_any {q : Nat} {x : Pg.FT m n} (hw : Pg.wfn p q x = 0) (f : Pg.F) (W : World) (rv fv gv : Value) (l : List Kd.I) (a : Nat) (fs : List Int) (ts : List Pg.Sl) (ss : List (List Int)) (hrf : Pg.RF w0 m n f x) (hN : Kd.N w0 W bc rv fv gv l a fs ts ss) (b : Bool) (hb : b = decide (q + 1 = p.length)) (hlen : l.length + (Kd.fn b x l.length a).length ≤ 50000) (ha : a + Pg.cnts x.cmds ≤ 1000) (hfl : fs.length ≤ 100) (htl : ts.length ≤ 100) :
  Calls Try.prog 10 #[.pointer (some ⟨bc, 0, none⟩), f.val, .bool b] W fun r W' => r = .returned (.tuple #[]) ∧ ∃ rv' fv' gv' ts', Kd.N w0 W' bc rv' fv' gv' (l ++ Kd.fn b x l.length a) (a + Pg.cnts x.cmds) (fs ++ [(l.length : Int)]) ts' (ss ++ [x.sizes]) := by
 obtain ⟨h1, h2⟩ := Pg.orW_zero (show Pg.orW _ (Pg.orW _ _) = 0 from hw)
 obtain ⟨h3, h4⟩ := Pg.orW_zero h2
 have hsl : x.sizes.length ≤ 600 := by
  unfold Pg.whead at h1
  split at h1
  · cases h1
  split at h1
  · cases h1
  omega
 have hb0 := (Below.refl W.heap.size W).alloc (Nat.le_refl _) (Obj.cells #[.int .i64 f.params, .slice f.sizes.ad f.sizes.len f.sizes.cap, .slice f.cmds.ad f.cmds.len f.cmds.cap, .int .i64 f.res.k, .int .i64 f.res.n, .slice f.res.args.ad f.res.args.len f.res.args.cap] 44)
 have hx1 := heap_alloc_new W (Obj.cells #[.int .i64 f.params, .slice f.sizes.ad f.sizes.len f.sizes.cap, .slice f.cmds.ad f.cmds.len f.cmds.cap, .int .i64 f.res.k, .int .i64 f.res.n, .slice f.res.args.ad f.res.args.len f.res.args.cap] 44)
 have hN1 := hN.below hb0
 have hlt := hN.m.lt
 have old : ∀ q v, W.heap.size ≤ q → (∀ (hr : ∀ k, v = some k → k < W.heap.size), v ≠ some q) := fun q v hq hr e => by have := hr q e; omega
 have hfx : fv.ownBlock ≠ some W.heap.size := old _ _ (Nat.le_refl _) (fun k hk => (hN.frow.lt k hk).2)
 have hgx : gv.ownBlock ≠ some W.heap.size := old _ _ (Nat.le_refl _) (fun k hk => (hN.grow.lt k hk).2)
 have hrx : rv.ownBlock ≠ some W.heap.size := old _ _ (Nat.le_refl _) (fun k hk => (hN.m.row.lt k hk).2)
 have hbx : W.heap.size ≠ bc := by omega
 have hw01 : W.heap.size < (W.alloc (Obj.cells #[.int .i64 f.params, .slice f.sizes.ad f.sizes.len f.sizes.cap, .slice f.cmds.ad f.cmds.len f.cmds.cap, .int .i64 f.res.k, .int .i64 f.res.n, .slice f.res.args.ad f.res.args.len f.res.args.cap] 44)).heap.size := by simp
 have HRF := hide hrf
 have HH := hide h3
 have H4 := hide h4
 have HB := hide hb
 have HLEN := hide hlen
 have HA := hide ha
 obtain ⟨LL, hLL⟩ : ∃ LL, LL = l ++ Kd.fn b x l.length a := ⟨_, rfl⟩
 rw [← hLL]
 have HLL := hide hLL
 obtain ⟨i0, hi0, hz0, hz1', hz2⟩ := info_of Try.infoK3
 have HI := hide hi0
 have HZ0 := hide hz0
 have HZ1 := hide hz1'
 have HZ2 := hide hz2
 obtain ⟨i1, hi1, hy0, hy1, hy2⟩ := info_of Try.infoSz
 have HI1 := hide hi1
 have HY0 := hide hy0
 have HY1 := hide hy1
 have HY2 := hide hy2
 have hlm : l.length ≤ 50000 := by omega
 have HHX := hide hx1
 have HN1 := hide hN1
 clear hN hrf h1 h2 h3 h4 hb hlen ha hLL hi0 hz0 hz1' hz2 hi1 hy0 hy1 hy2 hb0 old hw hx1 hN1
 unfold Pg.F.val
 go_enter Try.func10, Try.ntmps10
 go_upto_region 1 with fail
 generalize W.alloc (Obj.cells #[.int .i64 f.params, .slice f.sizes.ad f.sizes.len f.sizes.cap, .slice f.cmds.ad f.cmds.len f.cmds.cap, .int .i64 f.res.k, .int .i64 f.res.n, .slice f.res.args.ad f.res.args.len f.res.args.cap] 44) = W1 at *
 go_cut [] (fun V => ∃ fv', Kd.N w0 V bc rv fv' gv l a (fs ++ [(l.length : Int)]) ts ss ∧ V.heap[W.heap.size]? = W1.heap[W.heap.size]?)
 case first =>
  have hN1 := unhide HN1
  obtain ⟨gr, cr, hrv⟩ := hN1.m.slc
  obtain ⟨gf, cf, hfv⟩ := Kd.row_slc hN1.frow
  subst hrv hfv
  have k0 := hN1.m.c0
  have k1 := hN1.c1
  have kf := hN1.m.fz 1
  have hbl := hN1.m.lt
  have hwl : w0.heap.size ≤ W1.heap.size := hN1.m.bel.size
  have HROW := hide hN1.frow
  have HEV := hide (show ∀ q, (Value.slice gf fs.length cf).ownBlock = some q → q ≠ bc from fun q hq => (hN1.fap q hq).1)
  have HAP := hide (fun (W2 w6 : World) (h1 : Below W1.heap.size W1 W2) (h2 : W2.grownBy w6 (Value.slice gf fs.length cf).ownBlock) (g c : Nat) h3 h4 => hN1.addF (W2 := W2) (w6 := w6) (z := (l.length : Int)) h1 h2 g c h3 h4)
  generalize l.length = nl at *
  generalize fs.length = nf at *
  generalize fs.map (Value.int .i64) = xs at *
  have HNW := hide (show ∀ j u, [Value.int .i64 (nl : Nat)][j]? = some u → (W1.alloc (Obj.cells #[.int .i64 (nl : Nat)] 3)).drew.cell? ((⟨W1.heap.size, 0, none⟩ : Addr).add j) = some u from World.news_of_block (heap_alloc_new W1 (Obj.cells #[.int .i64 (nl : Nat)] 3)))
  have HBD := hide (show Below W1.heap.size W1 (W1.alloc (Obj.cells #[.int .i64 (nl : Nat)] 3)).drew from ((Below.refl W1.heap.size W1).alloc (Nat.le_refl _) _).drew)
  clear hN1
  go_region_law (first
    | (refine step_append_lies _ rfl (.tmp 11) (.tmp 18) 23 rfl w0.heap.size 3 i0 _ 1 8 Try.underlying23 (unhide HI) (unhide HZ0) (unhide HZ1) (unhide HZ2) rfl (by omega) (.slice gf nf cf) nf xs rfl (Pg.ow_below (unhide HROW) (unhide HBD)) _ 1 1 [.int .i64 (nl : Nat)] rfl rfl (unhide HNW) (by simp [Value.oneCell']) (by omega) (by unfold maxLen; omega) (by omega) (by simp; omega) _ rfl ?_; intro gA cA w6 hoA hgA hatA hltA; have HGA := hide hgA; have HOA := hide hoA; have HAT := hide (show (Value.slice gf nf cf).ownBlock = some gA ∨ W1.heap.size ≤ gA from hatA.imp id (fun e => by rw [e]; simp)); have hbb := (hgA.block bc (by simp; omega) (fun e => (unhide HEV) bc e.symm rfl)).trans ((unhide HBD).block bc (by omega)); have z4 := (Kd.cell_kept hbb 1).trans k1; have z5 := (Kd.frz_kept hbb 1).trans kf; clear hatA hltA hoA hgA hbb))
  all_goals
   go_wp2_with fail
   go_meet
   case rel =>
    have hA := (unhide HAP) _ _ (unhide HBD) (unhide HGA) _ _ (unhide HOA) (unhide HAT)
    exact ⟨_, hA.1, hA.2 _ hw01 hbx hfx⟩
 case rest =>
  rename World => V
  obtain ⟨fv2, hN2, hx2⟩ := hcut
  have hx2' := hx2.trans (unhide HHX)
  have HN2 := hide hN2
  have hVl : W.heap.size < V.heap.size := (Array.getElem?_eq_some_iff.1 hx2').1
  have HX2 := hide hx2'
  clear hN2 hx2 hx2' HN1
  go_upto_region 2 with fail
  go_cut [] (fun V2 => ∃ gv' ts', Kd.N w0 V2 bc rv fv2 gv' l a (fs ++ [(l.length : Int)]) ts' (ss ++ [x.sizes]) ∧ V2.heap[W.heap.size]? = V.heap[W.heap.size]?)
  case first =>
   have hN2 := unhide HN2
   obtain ⟨gg, cg, hgv⟩ := Kd.row_slc hN2.grow
   subst hgv
   have k2 := hN2.c2
   have kf := hN2.m.fz 2
   have hbl := hN2.m.lt
   have hwl : w0.heap.size ≤ V.heap.size := hN2.m.bel.size
   have f1 := (cell_of_row V W.heap.size 1 _ _ _ (unhide HX2)).trans rfl
   have HROW := hide hN2.grow
   have HEV := hide (show ∀ q, (Value.slice gg ts.length cg).ownBlock = some q → q ≠ bc from fun q hq => (hN2.gap q hq).1)
   have HCL := hide (kclone_any x.sizes f.sizes V.drew ((unhide HRF).sizes.later (hN2.m.below (Below.refl _ _).drew).bel (Nat.le_refl _)) hsl)
   have HAP := hide (fun (w5 W2 w6 : World) (t : Pg.Sl) (h1 : Below V.heap.size V w5) h2 h3 h4 h5 (g c : Nat) h6 h7 => hN2.addS (W1 := w5) (W2 := W2) (w6 := w6) (t := t) (s := x.sizes) h1 h2 h3 h4 h5 g c h6 h7)
   have hgx2 : (Value.slice gg ts.length cg).ownBlock ≠ some W.heap.size := hgx
   obtain ⟨ns, hns⟩ : ∃ ns, ns = x.sizes.length := ⟨_, rfl⟩
   rw [← hns] at HCL HAP
   clear hns
   generalize ts.length = nt at *
   generalize ts.map Kd.sv = xs at *
   clear hN2
   go_region_law (first
    | (go_simp; go_at_call 27; refine (unhide HCL).mono ?_; rintro r5 w5 ⟨a5, c5, rfl, ho5, hb5⟩; have HB5 := hide (show Below V.heap.size V w5 from ((Below.refl V.heap.size V).drew).trans (hb5.mono (Nat.le_refl _))); have HO5 := hide (show w5.ownsRow V.heap.size 3 1 (.slice a5 ns c5) ns _ from ho5); have y2 := (Kd.cell_kept ((unhide HB5).block bc hbl) 2).trans k2; have yf := (Kd.frz_kept ((unhide HB5).block bc hbl) 2).trans kf; have y2a : (w5.alloc (Obj.cells #[.slice a5 ns c5] 23)).cell? ⟨bc, 2, none⟩ = some (.slice gg nt cg) := Kd.cell_alloc y2; have hs5 := (unhide HB5).size; have HNW := hide (World.news_of_block (heap_alloc_new w5 (Obj.cells #[.slice a5 ns c5] 23))); have HBD := hide (show Below w5.heap.size w5 (w5.alloc (Obj.cells #[.slice a5 ns c5] 23)) from (Below.refl _ _).alloc (Nat.le_refl _) _); clear ho5 hb5)
    | (refine step_append_lies _ rfl (.tmp 28) (.tmp 32) 24 rfl w0.heap.size 23 i1 _ 1 24 Try.underlying24 (unhide HI1) (unhide HY0) (unhide HY1) (unhide HY2) rfl (by omega) (.slice gg nt cg) nt xs rfl (Pg.ow_below (Pg.ow_below (unhide HROW) (unhide HB5)) (unhide HBD)) ⟨w5.heap.size, 0, none⟩ 1 1 [.slice a5 ns c5] rfl rfl (unhide HNW) (by simp [Value.oneCell']) (by omega) (by unfold maxLen; omega) (by omega) (by simp; omega) _ rfl ?_; intro gA cA w6 hoA hgA hatA hltA; have HGA := hide hgA; have HOA := hide hoA; have HAT := hide (show (Value.slice gg nt cg).ownBlock = some gA ∨ w5.heap.size ≤ gA from hatA.imp id (fun e => by rw [e]; simp)); have hbb := (hgA.block bc (by simp; omega) (fun e => (unhide HEV) bc e.symm rfl)).trans ((unhide HBD).block bc (by omega)); have z4 := (Kd.cell_kept hbb 2).trans y2; have z5 := (Kd.frz_kept hbb 2).trans yf; clear hatA hltA hoA hgA hbb))
   all_goals
    go_wp2_with fail
    go_meet
    case rel =>
     have hA := (unhide HAP) w5 _ _ ⟨a5, ns, c5⟩ (unhide HB5) (unhide HO5) rfl (unhide HBD) (unhide HGA) _ _ (unhide HOA) (unhide HAT)
     exact ⟨_, _, hA.1, hA.2 _ hVl hbx hgx2⟩
  case rest =>
   rename World => w3
   obtain ⟨gv3, ts3, hN3, hx3⟩ := hcut
   have hx3' := hx3.trans (unhide HX2)
   have h3l : W.heap.size < w3.heap.size := (Array.getElem?_eq_some_iff.1 hx3').1
   have f2 := (cell_of_row w3 W.heap.size 2 _ _ _ hx3').trans rfl
   have HN3 := hide hN3
   have HX3 := hide hx3'
   have hfn : (Kd.fn b x l.length a).length = (Kd.cmds n x.cmds l.length a).length + (Kd.fin b x).length := by unfold Kd.fn; rw [List.length_append]
   have HCM := hide (kcmds_ok (p := p) (now := q) (x := x) n f.cmds x.cmds w3 rv l a (unhide HRF).cmds (unhide HH) hN3.m (by have := unhide HLEN; omega) (unhide HA))
   obtain ⟨L2, hL2⟩ : ∃ L2, L2 = l ++ Kd.cmds n x.cmds l.length a := ⟨_, rfl⟩
   rw [← hL2] at HCM
   have HL2 := hide (show L2.length + (Kd.fin b x).length ≤ 50000 by rw [hL2, List.length_append]; have := unhide HLEN; omega)
   have HLF := hide (show LL = L2 ++ Kd.fin b x by rw [unhide HLL, hL2, List.append_assoc]; rfl)
   clear hN3 hx3 hx3' hfn hL2 HN2 HX2 HLL
   go_wp2_with fail
   refine (unhide HCM).mono ?_
   rintro r w4 ⟨rfl, v4, hm4, hk4⟩
   have hx4 := (hk4.blk W.heap.size h3l hbx hrx).trans (unhide HX3)
   have hN4 := (unhide HN3).step hm4 hk4
   have HN4 := hide hN4
   have g3 := (cell_of_row w4 W.heap.size 3 _ _ _ hx4).trans rfl
   have g4 := (cell_of_row w4 W.heap.size 4 _ _ _ hx4).trans rfl
   have g5 := (cell_of_row w4 W.heap.size 5 _ _ _ hx4).trans rfl
   clear hx4 hk4 f2
   cases b with
   | true =>
    have HF := hide (show Kd.fin true x = [⟨14, 0, 0⟩] from rfl)
    have HPU := hide (kput_any hm4 (by have := unhide HL2; omega) 14 0 0)
    clear hm4 hN4
    go_wp2_with fail
    refine (unhide HPU).mono ?_
    rintro r w5 ⟨rfl, v5, hm5, hk5⟩
    have HP := hide ((unhide HN4).step hm5 hk5)
    clear hm5 hk5
    go_wp2_with fail
    exact bodyPost_ret (results_none rfl _ _ _) rfl ⟨rfl, v5, fv2, gv3, ts3, by rw [unhide HLF, unhide HF]; exact unhide HP⟩
   | false =>
    have hr4 : Pg.chkX x.sizes m x.res = 0 := by
     have := unhide H4
     unfold Pg.wres at this
     rw [← unhide HB] at this
     simpa using this
    have hfi : (Kd.fin false x).length = Pg.parts m x.res + 1 := by show (Kd.ex m x.res ++ [_]).length = _; rw [List.length_append, Kd.ex_len]; rfl
    have HF := hide (show Kd.fin false x = Kd.ex m x.res ++ [⟨13, 0, 0⟩] from rfl)
    have HEX := hide (kexpr_any m f.res x.res w4 v4 _ _ (unhide HRF).res hm4 (by have := unhide HL2; omega))
    have HLX := hide (show (L2 ++ Kd.ex m x.res).length ≤ 100000 by rw [List.length_append, Kd.ex_len]; have := unhide HL2; omega)
    clear hm4 hN4 hr4 hfi
    go_wp2_with fail
    refine (unhide HEX).mono ?_
    rintro r w5 ⟨rfl, v5, hm5, hk5⟩
    have HN5 := hide ((unhide HN4).step hm5 hk5)
    have HPU := hide (kput_any hm5 (unhide HLX) 13 0 0)
    clear hm5 hk5 g3 g4 g5
    go_wp2_with fail
    refine (unhide HPU).mono ?_
    rintro r w6 ⟨rfl, v6, hm6, hk6⟩
    have HP := hide ((unhide HN5).step hm6 hk6)
    clear hm6 hk6
    go_wp2_with fail
    go_end0
    exact ⟨rfl, v6, fv2, gv3, ts3, by rw [unhide HLF, unhide HF, ← List.append_assoc]; exact unhide HP⟩
end
end Go.Proofs.Ytpfogjplnodacaa
