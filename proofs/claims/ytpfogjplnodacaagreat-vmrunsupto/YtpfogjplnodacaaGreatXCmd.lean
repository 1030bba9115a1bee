/-
  The contract of the runner's cmd, by those of call and of cmds. By the verifier; written by mkxcmd.py.
-/
import Derived.Test.YtpfogjplnodacaaGreatLE
import Derived.Deep.CutBlock
import Derived.Deep.LoopGhost
set_option maxRecDepth 100000
set_option maxHeartbeats 12800000
namespace Go.Proofs.YtpfogjplnodacaaGreat
open Go.RowKit
set_option linter.unusedVariables false
def Xr.Post (w0 : World) (br : Nat) (fs : Pg.Sl) (sz : List Int) (bf : Nat) (gv : Option Nat) (vb : List Nat) (W : World) (ev : Value) (s : Xr.S) (f : Xr.F) (t : Xr.T) (r : Ending) (W' : World) : Prop :=
 r = .returned (.tuple #[]) ∧ ∃ ev', Xr.J w0 W' br fs t.1 ev' bf gv vb t.2 ∧ Xr.Kp br ev ev' (Xr.ws bf vb) W W' ∧ Xr.Sh t.2.vs sz ∧ (∀ k, Xr.Inv s k → Xr.Inv t.1 k) ∧ t.2.deep = f.deep ∧ t.1.fuel ≤ s.fuel
structure Xr.PP {m n : Nat} (w0 : World) (fs : Pg.Sl) (p : List (Pg.FT m n)) : Prop where
 rp : Pg.RP w0 m n fs p
 ok : ∀ (i : Nat) (x : Pg.FT m n), p[i]? = some x → Pg.wfn p i x = 0
 few : p.length ≤ 6
 cnt : (p.map (fun f => Pg.cnts f.cmds)).sum ≤ 40
section
variable {m n : Nat}
def Xr.CallOk (w0 : World) (br : Nat) (fs : Pg.Sl) (p : List (Pg.FT m n)) (d : Nat) : Prop :=
 ∀ (now : Nat) (x : Pg.FT m n), p[now]? = some x → ∀ (j : Nat) (c : Pg.C) (y : Pg.CT m (j + 1)) (W : World) (s : Xr.S) (ev : Value) (bf : Nat) (gv : Option Nat) (vb : List Nat) (f : Xr.F),
  Xr.J w0 W br fs s ev bf gv vb f → Pg.RC w0 m (j + 1) c y → Pg.wcm p now x y = 0 → y.1.1 = 3 → Xr.Sh f.vs x.sizes → f.deep + d = 5 → Xr.Inv1 s 0 →
  Calls Tryz.prog 133 #[.pointer (some ⟨br, 0, none⟩), .pointer (some ⟨bf, 0, none⟩), c.val] W fun r W' => r = .returned (.tuple #[]) ∧ ∃ ev', Xr.J w0 W' br fs (Xr.call p d s f y.1.2.1 y.1.2.2 y.2.1.2.2).1 ev' bf gv vb (Xr.call p d s f y.1.2.1 y.1.2.2 y.2.1.2.2).2 ∧ Xr.Kp br ev ev' (Xr.ws bf vb) W W' ∧ Xr.Sh (Xr.call p d s f y.1.2.1 y.1.2.2 y.2.1.2.2).2.vs x.sizes ∧ (∀ k, Xr.Inv1 s k → Xr.Inv (Xr.call p d s f y.1.2.1 y.1.2.2 y.2.1.2.2).1 k) ∧ (Xr.call p d s f y.1.2.1 y.1.2.2 y.2.1.2.2).2.deep = f.deep ∧ (Xr.call p d s f y.1.2.1 y.1.2.2 y.2.1.2.2).1.fuel ≤ s.fuel
def Xr.CmdsOk (w0 : World) (br : Nat) (fs : Pg.Sl) (p : List (Pg.FT m n)) (d j : Nat) : Prop :=
 ∀ (now : Nat) (x : Pg.FT m n), p[now]? = some x → ∀ (t : Pg.Sl) (l : List (Pg.CT m j)) (a : Nat) (W : World) (s : Xr.S) (ev : Value) (bf : Nat) (gv : Option Nat) (vb : List Nat) (f : Xr.F),
  Xr.J w0 W br fs s ev bf gv vb f → Pg.RS w0 12 (Pg.LC w0) (Pg.RC w0 m j) t l → Pg.wcs p now x j l = 0 → Xr.Sh f.vs x.sizes → f.deep + d = 5 → Xr.Inv s 0 → a + Pg.cnts l ≤ 1000 →
  Calls Tryz.prog 106 #[.pointer (some ⟨br, 0, none⟩), .pointer (some ⟨bf, 0, none⟩), .slice t.ad t.len t.cap, .int .i64 (a : Nat)] W (Xr.Post w0 br fs x.sizes bf gv vb W ev s f (Xr.cmds (Xr.call p d) j l a s f))
variable {w0 : World} {br : Nat} {fs : Pg.Sl} {p : List (Pg.FT m n)}
theorem Xr.fuel_fin (s : Xr.S) (f : Xr.F) (a how : Int) : (Xr.fin s f a how).fuel = s.fuel := by unfold Xr.fin Xr.tell; split <;> rfl
theorem Xr.fuel_tell (s : Xr.S) (e : Ev) : (Xr.tell s e).fuel = s.fuel := by unfold Xr.tell; split <;> rfl
theorem Xr.fuel_val {k : Nat} (s : Xr.S) (f : Xr.F) (x : Pg.XT k) : (Xr.valS s f x).fuel = s.fuel := by
 unfold Xr.valS
 split
 · rfl
 · split
   · rfl
   · exact Xr.fuel_fin _ _ _ _
theorem Xr.fuel_step (s : Xr.S) (f : Xr.F) (a : Int) : (Xr.stepS s f a).fuel ≤ s.fuel := by
 unfold Xr.stepS
 split
 · rw [Xr.fuel_fin]; exact Nat.le_refl _
 · rw [Xr.fuel_tell]; show s.fuel - 1 ≤ s.fuel; omega
theorem Xr.deep_step (s : Xr.S) (f : Xr.F) (a : Int) : (Xr.stepF s f a).deep = f.deep := by unfold Xr.stepF; split <;> rfl
theorem Xr.vs_step (s : Xr.S) (f : Xr.F) (a : Int) : (Xr.stepF s f a).vs = f.vs := by unfold Xr.stepF; split <;> rfl
theorem Xr.fuel_put {k : Nat} (s : Xr.S) (f : Xr.F) (v : Int) (ix ex : Pg.XT k) : (Xr.putS s f v ix ex).fuel = s.fuel := by
 unfold Xr.putS
 split
 · show (Xr.tell _ _).fuel = _; rw [Xr.fuel_tell, Xr.fuel_val, Xr.fuel_val]
 · rw [Xr.fuel_fin, Xr.fuel_val, Xr.fuel_val]
theorem Xr.deep_put {k : Nat} (s : Xr.S) (f : Xr.F) (v : Int) (ix ex : Pg.XT k) : (Xr.putF s f v ix ex).deep = f.deep := by unfold Xr.putF; split <;> rfl
theorem Xr.Sh.put {f : Xr.F} {sz : List Int} (h : Xr.Sh f.vs sz) {k : Nat} (s : Xr.S) (v : Int) (ix ex : Pg.XT k) : Xr.Sh (Xr.putF s f v ix ex).vs sz := by
 unfold Xr.putF
 split
 · exact h.upd _ _ _
 · exact h
structure Xr.Lp (w0 : World) (br : Nat) (fs : Pg.Sl) (sz : List Int) (bf : Nat) (gv : Option Nat) (vb : List Nat) (W : World) (ev : Value) (s1 : Xr.S) (f1 : Xr.F) (v1 : World) (bc : Nat) (T : Xr.T) (L : Nat → Xr.S → Xr.F → Xr.T) (k : Nat) (wr : World) : Prop where
 it : ∃ s2 f2 ev2, Xr.J w0 wr br fs s2 ev2 bf gv vb f2 ∧ Xr.Kp br ev ev2 (Xr.ws bf vb) W wr ∧ Xr.Sf wr br ev2 bc ∧ wr.heap[bc]? = v1.heap[bc]? ∧ T = L k s2 f2 ∧ (1 ≤ k ∧ (s2.ended = false → s2.fuel + 2 ≤ k)) ∧ Xr.Sh f2.vs sz ∧ (∀ k, Xr.Inv1 s1 k → Xr.Inv s2 k) ∧ f2.deep = f1.deep ∧ s2.fuel ≤ s1.fuel
theorem Xr.step_end (s : Xr.S) (f : Xr.F) (a : Int) : ((Xr.stepS s f a).ended = false → (Xr.stepS s f a).fuel + 1 ≤ s.fuel) := by
 unfold Xr.stepS
 split
 · intro h; cases h
 · intro _; rw [Xr.fuel_tell]; show s.fuel - 1 + 1 ≤ s.fuel; omega
theorem Xr.val_go {k : Nat} {s : Xr.S} {f : Xr.F} {x : Pg.XT k} (h : Xr.valV s f x ≠ 0) : s.ended = false := by
 cases he : s.ended with
 | false => rfl
 | true => exact absurd (by unfold Xr.valV; rw [if_pos he]) h
theorem xcmd_any (d j : Nat) (hpp : Xr.PP w0 fs p) (hcall : Xr.CallOk w0 br fs p d) (hcs : Xr.CmdsOk w0 br fs p d j) (now : Nat) (x : Pg.FT m n) (hx : p[now]? = some x) (c : Pg.C) (y : Pg.CT m (j + 1)) (a : Nat) (W : World) (s : Xr.S) (ev : Value) (bf : Nat) (gv : Option Nat) (vb : List Nat) (f : Xr.F)
  (h : Xr.J w0 W br fs s ev bf gv vb f) (hen : s.ended = false) (hre : Pg.RC w0 m (j + 1) c y) (hw : Pg.wcm p now x y = 0) (hwt : Pg.wcs p now x j y.2.2.1 = 0) (hwe : Pg.wcs p now x j y.2.2.2 = 0) (hsh : Xr.Sh f.vs x.sizes) (hd : f.deep + d = 5) (hinv : Xr.Inv s 0) (ha : a + Pg.cnt (j + 1) y ≤ 1000) :
  Calls Tryz.prog 121 #[.pointer (some ⟨br, 0, none⟩), .pointer (some ⟨bf, 0, none⟩), c.val, .int .i64 (a : Nat)] W (Xr.Post w0 br fs x.sizes bf gv vb W ev s f (Xr.cmd (Xr.call p d) (Xr.cmds (Xr.call p d) j) y a s f)) := by
 have hb0 := (Below.refl W.heap.size W).alloc (Nat.le_refl _) (Obj.cells #[.int .i64 c.k, .int .i64 c.v, .int .i64 c.f, .int .i64 c.ix.k, .int .i64 c.ix.n, .slice c.ix.args.ad c.ix.args.len c.ix.args.cap, .int .i64 c.ex.k, .int .i64 c.ex.n, .slice c.ex.args.ad c.ex.args.len c.ex.args.cap, .slice c.args.ad c.args.len c.args.cap, .slice c.thn.ad c.thn.len c.thn.cap, .slice c.els.ad c.els.len c.els.cap] 107)
 have hJ0 := h.below hb0
 have hsf := h.m.safe_new (Obj.cells #[.int .i64 c.k, .int .i64 c.v, .int .i64 c.f, .int .i64 c.ix.k, .int .i64 c.ix.n, .slice c.ix.args.ad c.ix.args.len c.ix.args.cap, .int .i64 c.ex.k, .int .i64 c.ex.n, .slice c.ex.args.ad c.ex.args.len c.ex.args.cap, .slice c.args.ad c.args.len c.args.cap, .slice c.thn.ad c.thn.len c.thn.cap, .slice c.els.ad c.els.len c.els.cap] 107)
 have HK0 := hide (Xr.Kp.below (br := br) (ev := ev) (ws := Xr.ws bf vb) hb0)
 have HC := hide (show ∀ V : World, V.heap[W.heap.size]? = (W.alloc (Obj.cells #[.int .i64 c.k, .int .i64 c.v, .int .i64 c.f, .int .i64 c.ix.k, .int .i64 c.ix.n, .slice c.ix.args.ad c.ix.args.len c.ix.args.cap, .int .i64 c.ex.k, .int .i64 c.ex.n, .slice c.ex.args.ad c.ex.args.len c.ex.args.cap, .slice c.args.ad c.args.len c.args.cap, .slice c.thn.ad c.thn.len c.thn.cap, .slice c.els.ad c.els.len c.els.cap] 107)).heap[W.heap.size]? → V.cell? ⟨W.heap.size, 0, none⟩ = some (.int .i64 c.k) ∧ V.cell? ⟨W.heap.size, 1, none⟩ = some (.int .i64 c.v) ∧ V.cell? ⟨W.heap.size, 2, none⟩ = some (.int .i64 c.f) ∧ V.cell? ⟨W.heap.size, 3, none⟩ = some (.int .i64 c.ix.k) ∧ V.cell? ⟨W.heap.size, 4, none⟩ = some (.int .i64 c.ix.n) ∧ V.cell? ⟨W.heap.size, 5, none⟩ = some (.slice c.ix.args.ad c.ix.args.len c.ix.args.cap) ∧ V.cell? ⟨W.heap.size, 6, none⟩ = some (.int .i64 c.ex.k) ∧ V.cell? ⟨W.heap.size, 7, none⟩ = some (.int .i64 c.ex.n) ∧ V.cell? ⟨W.heap.size, 8, none⟩ = some (.slice c.ex.args.ad c.ex.args.len c.ex.args.cap) ∧ V.cell? ⟨W.heap.size, 9, none⟩ = some (.slice c.args.ad c.args.len c.args.cap) ∧ V.cell? ⟨W.heap.size, 10, none⟩ = some (.slice c.thn.ad c.thn.len c.thn.cap) ∧ V.cell? ⟨W.heap.size, 11, none⟩ = some (.slice c.els.ad c.els.len c.els.cap) from fun V hV => by
  refine ⟨?_, ?_, ?_, ?_, ?_, ?_, ?_, ?_, ?_, ?_, ?_, ?_⟩
  · rw [Xr.cell_kept hV 0]; go_simp
  · rw [Xr.cell_kept hV 1]; go_simp
  · rw [Xr.cell_kept hV 2]; go_simp
  · rw [Xr.cell_kept hV 3]; go_simp
  · rw [Xr.cell_kept hV 4]; go_simp
  · rw [Xr.cell_kept hV 5]; go_simp
  · rw [Xr.cell_kept hV 6]; go_simp
  · rw [Xr.cell_kept hV 7]; go_simp
  · rw [Xr.cell_kept hV 8]; go_simp
  · rw [Xr.cell_kept hV 9]; go_simp
  · rw [Xr.cell_kept hV 10]; go_simp
  · rw [Xr.cell_kept hV 11]; go_simp)
 have hnw : W.heap.size ∉ Xr.ws bf vb := fun e => by have := (h.fm.hge _ (Xr.ws_own e)).2; omega
 have hnv : W.heap.size ∉ Xr.own bf gv vb := fun e => by have := (h.fm.hge _ e).2; omega
 have HST := hide (step_any (a : Nat) _ hJ0 (fun e => by have := hinv.rm e; omega) (by have := hinv.fuel; omega))
 have HI1 := hide (fun k (hk : Xr.Inv s k) => hk.step hen f (a : Nat))
 have hsh1 : Xr.Sh (Xr.stepF s f (a : Nat)).vs x.sizes := by rw [Xr.vs_step]; exact hsh
 have hd1 : (Xr.stepF s f (a : Nat)).deep + d = 5 := by rw [Xr.deep_step]; exact hd
 have hde : (Xr.stepF s f (a : Nat)).deep = f.deep := Xr.deep_step _ _ _
 have hfu : (Xr.stepS s f (a : Nat)).fuel ≤ s.fuel := Xr.fuel_step _ _ _
 have HT := hide (show Xr.cmd (Xr.call p d) (Xr.cmds (Xr.call p d) j) y a s f = Xr.cmdT (Xr.call p d) (Xr.cmds (Xr.call p d) j) y a (Xr.stepS s f (a : Nat)) (Xr.stepF s f (a : Nat)) from rfl)
 have hinv1 := hinv.step hen f (a : Nat)
 obtain ⟨⟨hk, hv, hf⟩, ⟨hix, hex, hag⟩, hrt, hrl⟩ := id hre
 obtain ⟨w1, w2, w3, w4, w5, w6⟩ := Xr.wc_ok (show Pg.wc y.1.1 (Pg.at? x.sizes y.1.2.1) _ _ _ _ _ _ = 0 from hw)
 have hcn : Pg.cnt (j + 1) y = 1 + Pg.cnts y.2.2.1 + Pg.cnts y.2.2.2 := rfl
 generalize Xr.cmd (Xr.call p d) (Xr.cmds (Xr.call p d) j) y a s f = T at *
 generalize hs1 : Xr.stepS s f (a : Nat) = s1 at *
 generalize hf1 : Xr.stepF s f (a : Nat) = f1 at *
 have HJ0 := hide hJ0
 have HSF := hide hsf
 have HNW := hide hnw
 have HNV := hide hnv
 have HINV := hide hinv1
 have HKE := hide hk
 have HVE := hide hv
 have HRE := hide hre
 have HW := hide hw
 have HSH := hide hsh1
 have HX := hide hx
 have ha9 : a ≤ 1000 := by omega
 have HTD := hide (show T = Xr.cmdT (Xr.call p d) (Xr.cmds (Xr.call p d) j) y a s1 f1 from unhide HT)
 have HDN := hide (fun (t : Xr.T) (r : Ending) (W' : World) (ev' : Value) (h1 : T = t) (h2 : r = .returned (.tuple #[])) (h3 : Xr.J w0 W' br fs t.1 ev' bf gv vb t.2) (h4 : Xr.Kp br ev ev' (Xr.ws bf vb) W W') (h5 : Xr.Sh t.2.vs x.sizes) (h6 : ∀ k, Xr.Inv1 s1 k → Xr.Inv t.1 k) (h7 : t.2.deep = f1.deep) (h8 : t.1.fuel ≤ s1.fuel) => show Xr.Post w0 br fs x.sizes bf gv vb W ev s f T r W' from by
  rw [h1]
  exact ⟨h2, ev', h3, h4, h5, fun k hk => h6 k ((unhide HI1) k hk), h7.trans hde, Nat.le_trans h8 hfu⟩)
 clear h hb0 hJ0 hsf hnw hnv hen hre hw hsh hsh1 hinv hinv1 hx HT HI1 hpp hs1 hf1 hd hde hfu hf hk hv
 unfold Pg.C.val
 go_enter Tryz.func121, Tryz.ntmps121
 go_wp2_with fail
 refine (unhide HST).mono ?_
 rintro r v1 ⟨rfl, ev1, hJ1, hk1⟩
 have hsf1 := hk1.safe (unhide HSF) (unhide HNW)
 have HS1 := hide hsf1
 have HJ1 := hide hJ1
 have HK1 := hide ((unhide HK0).trans hk1)
 have HCC := hide (fun (V : World) (hV : V.heap[W.heap.size]? = v1.heap[W.heap.size]?) => (unhide HC) V (hV.trans hsf1.2))
 obtain ⟨q0, q1, q2, q3, q4, q5, q6, q7, q8, q9, q10, q11⟩ := (unhide HC) _ hsf1.2
 have hk := unhide HKE
 have hv := unhide HVE
 have hkk : c.k = 1 ∨ c.k = 2 ∨ c.k = 3 ∨ c.k = 4 ∨ c.k = 5 ∨ c.k = 6 ∨ c.k = 7 := by omega
 clear hsf1 hJ1 hk1 HC
 rcases hkk with hkk | hkk | hkk | hkk | hkk | hkk | hkk
 · skip
   have b1 : (c.k == 1) = true := by rw [hkk]; rfl
   obtain ⟨z0, hz0⟩ := w2 (by omega)
   obtain ⟨i, l, e1, e2, e3, e4⟩ := (unhide HSH).var hz0
   have hoe := (unhide HSH).okX hex (w5 (by omega) (by omega))
   have HVL := hide (fun (V : World) (ev' : Value) (hJ : Xr.J w0 V br fs s1 ev' bf gv vb f1) => show Calls Tryz.prog 131 #[.pointer (some ⟨br, 0, none⟩), .pointer (some ⟨bf, 0, none⟩), .agg #[.int .i64 c.ex.k, .int .i64 c.ex.n, .slice c.ex.args.ad c.ex.args.len c.ex.args.cap]] V fun r W' => r = .returned (.int .i64 (Xr.valV s1 f1 y.2.1.2.1)) ∧ ∃ ev'', Xr.M w0 W' br fs (Xr.valS s1 f1 y.2.1.2.1) ev'' ∧ Xr.Kp br ev' ev'' [] V W' from value_any m c.ex y.2.1.2.1 V hJ hex hoe ((unhide HINV).inv.rm.le (by omega)))
   have HT := hide (show T = (Xr.wrS (Xr.valS s1 f1 y.2.1.2.1) f1 f1.at_ y.1.2.1 0 (Xr.valV s1 f1 y.2.1.2.1), Xr.wrF f1 y.1.2.1 0 (Xr.valV s1 f1 y.2.1.2.1)) by rw [unhide HTD]; unfold Xr.cmdT; rw [if_pos (by omega)])
   have hI2 := ((unhide HINV).inv.val f1 y.2.1.2.1).rm
   have HWR := hide (fun (V : World) (ev' : Value) (hJ : Xr.J w0 V br fs (Xr.valS s1 f1 y.2.1.2.1) ev' bf gv vb f1) => show Calls Tryz.prog 130 #[.pointer (some ⟨br, 0, none⟩), .pointer (some ⟨bf, 0, none⟩), .int .i64 f1.at_, .int .i64 c.v, .int .i64 0, .int .i64 (Xr.valV s1 f1 y.2.1.2.1)] V fun r W' => r = .returned (.tuple #[]) ∧ ∃ ev'', Xr.J w0 W' br fs (Xr.wrS (Xr.valS s1 f1 y.2.1.2.1) f1 f1.at_ y.1.2.1 0 (Xr.valV s1 f1 y.2.1.2.1)) ev'' bf gv vb (Xr.wrF f1 y.1.2.1 0 (Xr.valV s1 f1 y.2.1.2.1)) ∧ Xr.Kp br ev' ev'' (Xr.ws bf vb) V W' from by
    rw [hv, e1]
    exact write_any f1.at_ i 0 l (Xr.valV s1 f1 y.2.1.2.1) V hJ (hI2.le (by omega)) e2 e3)
   have HRS := hide (show Xr.Sh (Xr.wrF f1 y.1.2.1 0 (Xr.valV s1 f1 y.2.1.2.1)).vs x.sizes ∧ (∀ k, Xr.Inv1 s1 k → Xr.Inv (Xr.wrS (Xr.valS s1 f1 y.2.1.2.1) f1 f1.at_ y.1.2.1 0 (Xr.valV s1 f1 y.2.1.2.1)) k) ∧ (Xr.wrF f1 y.1.2.1 0 (Xr.valV s1 f1 y.2.1.2.1)).deep = f1.deep ∧ (Xr.wrS (Xr.valS s1 f1 y.2.1.2.1) f1 f1.at_ y.1.2.1 0 (Xr.valV s1 f1 y.2.1.2.1)).fuel ≤ s1.fuel from ⟨(unhide HSH).upd _ _ _, fun k hk => ((hk.inv.le (show k + 1 ≤ k + 6 by omega)).val f1 y.2.1.2.1).wr _ _ _ _ _, rfl, by show (Xr.tell _ _).fuel ≤ _; rw [Xr.fuel_tell, Xr.fuel_val]; exact Nat.le_refl _⟩)
   have HAT := hide (show (Xr.wrF f1 y.1.2.1 0 (Xr.valV s1 f1 y.2.1.2.1)).at_ = f1.at_ from rfl)
   have m2 := (unhide HJ1).fm.c2
   have HKM := hide (show (fun V : World => V.cell? ⟨bf, 2, none⟩ = some (.int .i64 f1.at_) ∧ V.cell? ⟨W.heap.size, 1, none⟩ = some (.int .i64 c.v) ∧ V.cell? ⟨W.heap.size, 6, none⟩ = some (.int .i64 c.ex.k) ∧ V.cell? ⟨W.heap.size, 7, none⟩ = some (.int .i64 c.ex.n) ∧ V.cell? ⟨W.heap.size, 8, none⟩ = some (.slice c.ex.args.ad c.ex.args.len c.ex.args.cap)) v1.drew from ⟨m2, q1, q6, q7, q8⟩)
   generalize Xr.wrS (Xr.valS s1 f1 y.2.1.2.1) f1 f1.at_ y.1.2.1 0 (Xr.valV s1 f1 y.2.1.2.1) = s3 at *
   generalize Xr.wrF f1 y.1.2.1 0 (Xr.valV s1 f1 y.2.1.2.1) = f3 at *
   generalize Xr.valV s1 f1 y.2.1.2.1 = vv at *
   generalize Xr.valS s1 f1 y.2.1.2.1 = s2 at *
   clear hk hv hkk hcall hcs hrt hrl hag hix hex w1 w2 w3 w4 w5 w6 hwt hwe hI2 hoe
   go_upto_region 4 with fail
   clear m2 q0 q1 q2 q3 q4 q5 q6 q7 q8 q9 q10 q11
   go_region_held3 (fun V => V.cell? ⟨bf, 2, none⟩ = some (.int .i64 f1.at_) ∧ V.cell? ⟨W.heap.size, 1, none⟩ = some (.int .i64 c.v) ∧ V.cell? ⟨W.heap.size, 6, none⟩ = some (.int .i64 c.ex.k) ∧ V.cell? ⟨W.heap.size, 7, none⟩ = some (.int .i64 c.ex.n) ∧ V.cell? ⟨W.heap.size, 8, none⟩ = some (.slice c.ex.args.ad c.ex.args.len c.ex.args.cap))
    (first | assumption | exact unhide HKM | exact unhide HA5 | exact unhide HA6)
    (first
     | (go_at_call 131; refine ((unhide HVL) _ ev1 ?_).mono ?_; exact (unhide HJ1).below ((Below.refl _ _).drew); rintro r w5 ⟨rfl, ev5, hm5, hk5⟩; have hJ5 := ((unhide HJ1).below ((Below.refl _ _).drew)).told hm5 hk5 (fun q hq => by cases hq); have hs5 := hk5.safe (q := W.heap.size) ⟨(unhide HS1).1.lt, (unhide HS1).1.br, (unhide HS1).1.ev⟩ (by simp); have HJ5 := hide hJ5; have HS5 := hide hs5; have HK5 := hide hk5; have hcc := (unhide HCC) w5 hs5.2; have HA5 := hide (show (fun V : World => V.cell? ⟨bf, 2, none⟩ = some (.int .i64 f1.at_) ∧ V.cell? ⟨W.heap.size, 1, none⟩ = some (.int .i64 c.v) ∧ V.cell? ⟨W.heap.size, 6, none⟩ = some (.int .i64 c.ex.k) ∧ V.cell? ⟨W.heap.size, 7, none⟩ = some (.int .i64 c.ex.n) ∧ V.cell? ⟨W.heap.size, 8, none⟩ = some (.slice c.ex.args.ad c.ex.args.len c.ex.args.cap)) w5 from ⟨hJ5.fm.c2, hcc.2.1, hcc.2.2.2.2.2.2.1, hcc.2.2.2.2.2.2.2.1, hcc.2.2.2.2.2.2.2.2.1⟩); clear hm5 hk5 hJ5 hs5 hcc)
     | (go_at_call 130; refine ((unhide HWR) _ ev5 ?_).mono ?_; exact unhide HJ5; rintro r w6 ⟨rfl, ev6, hJ6, hk6⟩; have HJ6 := hide hJ6; have HK6 := hide hk6; have hs6 := hk6.safe (unhide HS5).1 (unhide HNW); have hcc := (unhide HCC) w6 (hs6.2.trans (unhide HS5).2); have HA6 := hide (show (fun V : World => V.cell? ⟨bf, 2, none⟩ = some (.int .i64 f1.at_) ∧ V.cell? ⟨W.heap.size, 1, none⟩ = some (.int .i64 c.v) ∧ V.cell? ⟨W.heap.size, 6, none⟩ = some (.int .i64 c.ex.k) ∧ V.cell? ⟨W.heap.size, 7, none⟩ = some (.int .i64 c.ex.n) ∧ V.cell? ⟨W.heap.size, 8, none⟩ = some (.slice c.ex.args.ad c.ex.args.len c.ex.args.cap)) w6 from ⟨by rw [← unhide HAT]; exact hJ6.fm.c2, hcc.2.1, hcc.2.2.2.2.2.2.1, hcc.2.2.2.2.2.2.2.1, hcc.2.2.2.2.2.2.2.2.1⟩); clear hJ6 hk6 hs6 hcc))
   all_goals
    go_wp2_with fail
    go_end0
    exact (unhide HDN) _ _ _ _ (unhide HT) rfl (unhide HJ6) ((((unhide HK1).trans (Xr.Kp.below ((Below.refl _ _).drew))).trans ((unhide HK5).more (fun q hq => by cases hq))).trans (unhide HK6)) (unhide HRS).1 (unhide HRS).2.1 (unhide HRS).2.2.1 (unhide HRS).2.2.2
 · skip
   have b1 : (c.k == 1) = false := by rw [hkk]; rfl
   have b2 : (c.k == 2) = true := by rw [hkk]; rfl
   obtain ⟨z0, hz0⟩ := w2 (by omega)
   obtain ⟨i, l, e1, e2, e3, e4⟩ := (unhide HSH).var hz0
   have HT := hide (show T = (Xr.putS s1 f1 y.1.2.1 y.2.1.1 y.2.1.2.1, Xr.putF s1 f1 y.1.2.1 y.2.1.1 y.2.1.2.1) by rw [unhide HTD]; unfold Xr.cmdT; rw [if_neg (by omega), if_pos (by omega)])
   have HP := hide (show Calls Tryz.prog 132 #[.pointer (some ⟨br, 0, none⟩), .pointer (some ⟨bf, 0, none⟩), .agg #[.int .i64 c.k, .int .i64 c.v, .int .i64 c.f, .int .i64 c.ix.k, .int .i64 c.ix.n, .slice c.ix.args.ad c.ix.args.len c.ix.args.cap, .int .i64 c.ex.k, .int .i64 c.ex.n, .slice c.ex.args.ad c.ex.args.len c.ex.args.cap, .slice c.args.ad c.args.len c.args.cap, .slice c.thn.ad c.thn.len c.thn.cap, .slice c.els.ad c.els.len c.els.cap]] v1 fun r W' => r = .returned (.tuple #[]) ∧ ∃ ev', Xr.J w0 W' br fs (Xr.putS s1 f1 y.1.2.1 y.2.1.1 y.2.1.2.1) ev' bf gv vb (Xr.putF s1 f1 y.1.2.1 y.2.1.1 y.2.1.2.1) ∧ Xr.Kp br ev1 ev' (Xr.ws bf vb) v1 W' from by
    rw [← hv]
    exact put_any c i l y.2.1.1 y.2.1.2.1 v1 (unhide HJ1) ((unhide HINV).inv.rm.le (by omega)) (by rw [hv, e1]) e2 hix hex ((unhide HSH).okX hix (w4 (by omega))) ((unhide HSH).okX hex (w5 (by omega) (by omega))))
   clear hk hv hkk hcall hcs hrt hrl hag hix hex w1 w2 w3 w4 w5 w6 hwt hwe
   go_wp2_with fail
   refine (unhide HP).mono ?_
   rintro r v2 ⟨rfl, ev2, hJ2, hk2⟩
   have HJ2 := hide hJ2
   have HK2 := hide ((unhide HK1).trans hk2)
   clear hJ2 hk2
   go_wp2_with fail
   go_end0
   exact (unhide HDN) _ _ _ _ (unhide HT) rfl (unhide HJ2) (unhide HK2) ((unhide HSH).put _ _ _ _) (fun k hk => (hk.inv.le (by omega)).put (k := k) _ _ _ _) (Xr.deep_put _ _ _ _ _) (by rw [Xr.fuel_put]; exact Nat.le_refl _)
 · skip
   have b1 : (c.k == 1) = false := by rw [hkk]; rfl
   have b2 : (c.k == 2) = false := by rw [hkk]; rfl
   have b3 : (c.k == 3) = true := by rw [hkk]; rfl
   have HT := hide (show T = Xr.call p d s1 f1 y.1.2.1 y.1.2.2 y.2.1.2.2 by rw [unhide HTD]; unfold Xr.cmdT; rw [if_neg (by omega), if_neg (by omega), if_pos (by omega)])
   have HP := hide (hcall now x (unhide HX) j c y v1 s1 ev1 bf gv vb f1 (unhide HJ1) (unhide HRE) (unhide HW) (by omega) (unhide HSH) hd1 (unhide HINV))
   unfold Pg.C.val at HP
   generalize Xr.call p d s1 f1 y.1.2.1 y.1.2.2 y.2.1.2.2 = T2 at *
   clear hk hv hkk hcall hcs hrt hrl hag hix hex w1 w2 w3 w4 w5 w6 hwt hwe
   go_wp2_with fail
   refine (unhide HP).mono ?_
   rintro r v2 ⟨rfl, ev2, hJ2, hk2, h5, h6, h7, h8⟩
   have HJ2 := hide hJ2
   have HK2 := hide ((unhide HK1).trans hk2)
   have HR := hide (And.intro h5 (And.intro h6 (And.intro h7 h8)))
   clear hJ2 hk2 h5 h6 h7 h8
   go_wp2_with fail
   go_end0
   exact (unhide HDN) _ _ _ _ (unhide HT) rfl (unhide HJ2) (unhide HK2) (unhide HR).1 (unhide HR).2.1 (unhide HR).2.2.1 (unhide HR).2.2.2
 · skip
   have b1 : (c.k == 1) = false := by rw [hkk]; rfl
   have b2 : (c.k == 2) = false := by rw [hkk]; rfl
   have b3 : (c.k == 3) = false := by rw [hkk]; rfl
   have b4 : (c.k == 4) = true := by rw [hkk]; rfl
   obtain ⟨z0, hz0⟩ := w2 (by omega)
   obtain ⟨i, l, e1, e2, e3, e4⟩ := (unhide HSH).var hz0
   have HT := hide (show T = (Xr.readS s1 f1 y.1.2.1, Xr.readF s1 f1 y.1.2.1) by rw [unhide HTD]; unfold Xr.cmdT; rw [if_neg (by omega), if_neg (by omega), if_neg (by omega), if_pos (by omega)])
   have HP := hide (show Calls Tryz.prog 134 #[.pointer (some ⟨br, 0, none⟩), .pointer (some ⟨bf, 0, none⟩), .int .i64 c.v] v1 fun r W' => r = .returned (.tuple #[]) ∧ ∃ ev', Xr.J w0 W' br fs (Xr.readS s1 f1 y.1.2.1) ev' bf gv vb (Xr.readF s1 f1 y.1.2.1) ∧ Xr.Kp br ev1 ev' (Xr.ws bf vb) v1 W' from by
    rw [hv, e1]
    exact read_any i l v1 (unhide HJ1) ((unhide HINV).inv.rm.le (by omega)) e2 e3)
   clear hk hv hkk hcall hcs hrt hrl hag hix hex w1 w2 w3 w4 w5 w6 hwt hwe
   go_wp2_with fail
   refine (unhide HP).mono ?_
   rintro r v2 ⟨rfl, ev2, hJ2, hk2⟩
   have HJ2 := hide hJ2
   have HK2 := hide ((unhide HK1).trans hk2)
   clear hJ2 hk2
   go_wp2_with fail
   go_end0
   exact (unhide HDN) _ _ _ _ (unhide HT) rfl (unhide HJ2) (unhide HK2) ((unhide HSH).upd _ _ _) (fun k hk => (hk.inv.le (by omega)).read (k := k) _ _) rfl (by show (Xr.tell _ _).fuel ≤ _; rw [Xr.fuel_tell, Xr.fuel_tell]; exact Nat.le_refl _)
 · skip
   have b1 : (c.k == 1) = false := by rw [hkk]; rfl
   have b2 : (c.k == 2) = false := by rw [hkk]; rfl
   have b3 : (c.k == 3) = false := by rw [hkk]; rfl
   have b4 : (c.k == 4) = false := by rw [hkk]; rfl
   have b5 : (c.k == 5) = true := by rw [hkk]; rfl
   have hoe := (unhide HSH).okX hex (w5 (by omega) (by omega))
   have HVL := hide (fun (V : World) (ev' : Value) (hJ : Xr.J w0 V br fs s1 ev' bf gv vb f1) => show Calls Tryz.prog 131 #[.pointer (some ⟨br, 0, none⟩), .pointer (some ⟨bf, 0, none⟩), .agg #[.int .i64 c.ex.k, .int .i64 c.ex.n, .slice c.ex.args.ad c.ex.args.len c.ex.args.cap]] V fun r W' => r = .returned (.int .i64 (Xr.valV s1 f1 y.2.1.2.1)) ∧ ∃ ev'', Xr.M w0 W' br fs (Xr.valS s1 f1 y.2.1.2.1) ev'' ∧ Xr.Kp br ev' ev'' [] V W' from value_any m c.ex y.2.1.2.1 V hJ hex hoe ((unhide HINV).inv.rm.le (by omega)))
   have HT := hide (show T = (Xr.tell (Xr.valS s1 f1 y.2.1.2.1) ⟨4, f1.num, f1.at_, 0, 0, Xr.valV s1 f1 y.2.1.2.1⟩, f1) by rw [unhide HTD]; unfold Xr.cmdT; rw [if_neg (by omega), if_neg (by omega), if_neg (by omega), if_neg (by omega), if_pos (by omega)])
   have hI2 := ((unhide HINV).inv.val f1 y.2.1.2.1).rm
   have HWR := hide (fun (V : World) (ev' : Value) (hJ : Xr.J w0 V br fs (Xr.valS s1 f1 y.2.1.2.1) ev' bf gv vb f1) => show Calls Tryz.prog 107 #[.pointer (some ⟨br, 0, none⟩), .agg #[.int .i64 4, .int .i64 (f1.num : Nat), .int .i64 f1.at_, .int .i64 0, .int .i64 0, .int .i64 (Xr.valV s1 f1 y.2.1.2.1)]] V fun r W' => r = .returned (.tuple #[]) ∧ ∃ ev'', Xr.M w0 W' br fs (Xr.tell (Xr.valS s1 f1 y.2.1.2.1) ⟨4, f1.num, f1.at_, 0, 0, Xr.valV s1 f1 y.2.1.2.1⟩) ev'' ∧ Xr.Kp br ev' ev'' [] V W' from tell_any br fs _ ev' ⟨4, f1.num, f1.at_, 0, 0, Xr.valV s1 f1 y.2.1.2.1⟩ V hJ.m (hI2.le (by omega)))
   have HRS := hide (show (∀ k, Xr.Inv1 s1 k → Xr.Inv (Xr.tell (Xr.valS s1 f1 y.2.1.2.1) ⟨4, f1.num, f1.at_, 0, 0, Xr.valV s1 f1 y.2.1.2.1⟩) k) ∧ (Xr.tell (Xr.valS s1 f1 y.2.1.2.1) ⟨4, f1.num, f1.at_, 0, 0, Xr.valV s1 f1 y.2.1.2.1⟩).fuel ≤ s1.fuel from ⟨fun k hk => ((hk.inv.le (show k + 1 ≤ k + 6 by omega)).val f1 y.2.1.2.1).tell _, by rw [Xr.fuel_tell, Xr.fuel_val]; exact Nat.le_refl _⟩)
   have m0 := (unhide HJ1).fm.c0
   have m2 := (unhide HJ1).fm.c2
   have HKM := hide (show (fun V : World => V.cell? ⟨bf, 0, none⟩ = some (.int .i64 (f1.num : Nat)) ∧ V.cell? ⟨bf, 2, none⟩ = some (.int .i64 f1.at_) ∧ V.cell? ⟨W.heap.size, 6, none⟩ = some (.int .i64 c.ex.k) ∧ V.cell? ⟨W.heap.size, 7, none⟩ = some (.int .i64 c.ex.n) ∧ V.cell? ⟨W.heap.size, 8, none⟩ = some (.slice c.ex.args.ad c.ex.args.len c.ex.args.cap)) v1.drew from ⟨m0, m2, q6, q7, q8⟩)
   generalize Xr.tell (Xr.valS s1 f1 y.2.1.2.1) ⟨4, f1.num, f1.at_, 0, 0, Xr.valV s1 f1 y.2.1.2.1⟩ = s3 at *
   generalize Xr.valV s1 f1 y.2.1.2.1 = vv at *
   generalize Xr.valS s1 f1 y.2.1.2.1 = s2 at *
   clear hk hv hkk hcall hcs hrt hrl hag hix hex w1 w2 w3 w4 w5 w6 hwt hwe hI2 hoe
   go_upto_region 12 with fail
   clear m0 m2 q0 q1 q2 q3 q4 q5 q6 q7 q8 q9 q10 q11
   go_region_held3 (fun V => V.cell? ⟨bf, 0, none⟩ = some (.int .i64 (f1.num : Nat)) ∧ V.cell? ⟨bf, 2, none⟩ = some (.int .i64 f1.at_) ∧ V.cell? ⟨W.heap.size, 6, none⟩ = some (.int .i64 c.ex.k) ∧ V.cell? ⟨W.heap.size, 7, none⟩ = some (.int .i64 c.ex.n) ∧ V.cell? ⟨W.heap.size, 8, none⟩ = some (.slice c.ex.args.ad c.ex.args.len c.ex.args.cap))
    (first | assumption | exact unhide HKM | exact unhide HA5 | exact unhide HA6)
    (first
     | (go_at_call 131; refine ((unhide HVL) _ ev1 ?_).mono ?_; exact (unhide HJ1).below ((Below.refl _ _).drew); rintro r w5 ⟨rfl, ev5, hm5, hk5⟩; have hJ5 := ((unhide HJ1).below ((Below.refl _ _).drew)).told hm5 hk5 (fun q hq => by cases hq); have hs5 := hk5.safe (q := W.heap.size) ⟨(unhide HS1).1.lt, (unhide HS1).1.br, (unhide HS1).1.ev⟩ (by simp); have HJ5 := hide hJ5; have HS5 := hide hs5; have HK5 := hide hk5; have hcc := (unhide HCC) w5 hs5.2; have HA5 := hide (show (fun V : World => V.cell? ⟨bf, 0, none⟩ = some (.int .i64 (f1.num : Nat)) ∧ V.cell? ⟨bf, 2, none⟩ = some (.int .i64 f1.at_) ∧ V.cell? ⟨W.heap.size, 6, none⟩ = some (.int .i64 c.ex.k) ∧ V.cell? ⟨W.heap.size, 7, none⟩ = some (.int .i64 c.ex.n) ∧ V.cell? ⟨W.heap.size, 8, none⟩ = some (.slice c.ex.args.ad c.ex.args.len c.ex.args.cap)) w5 from ⟨hJ5.fm.c0, hJ5.fm.c2, hcc.2.2.2.2.2.2.1, hcc.2.2.2.2.2.2.2.1, hcc.2.2.2.2.2.2.2.2.1⟩); clear hm5 hk5 hJ5 hs5 hcc)
     | (go_at_call 107; refine ((unhide HWR) _ ev5 ?_).mono ?_; exact unhide HJ5; rintro r w6 ⟨rfl, ev6, hm6, hk6⟩; have hJ6 := (unhide HJ5).told hm6 hk6 (fun q hq => by cases hq); have HJ6 := hide hJ6; have HK6 := hide hk6; have hs6 := hk6.safe (unhide HS5).1 (by simp); have hcc := (unhide HCC) w6 (hs6.2.trans (unhide HS5).2); have HA6 := hide (show (fun V : World => V.cell? ⟨bf, 0, none⟩ = some (.int .i64 (f1.num : Nat)) ∧ V.cell? ⟨bf, 2, none⟩ = some (.int .i64 f1.at_) ∧ V.cell? ⟨W.heap.size, 6, none⟩ = some (.int .i64 c.ex.k) ∧ V.cell? ⟨W.heap.size, 7, none⟩ = some (.int .i64 c.ex.n) ∧ V.cell? ⟨W.heap.size, 8, none⟩ = some (.slice c.ex.args.ad c.ex.args.len c.ex.args.cap)) w6 from ⟨hJ6.fm.c0, hJ6.fm.c2, hcc.2.2.2.2.2.2.1, hcc.2.2.2.2.2.2.2.1, hcc.2.2.2.2.2.2.2.2.1⟩); clear hJ6 hm6 hk6 hs6 hcc))
   all_goals
    go_wp2_with fail
    go_end0
    exact (unhide HDN) _ _ _ _ (unhide HT) rfl (unhide HJ6) ((((unhide HK1).trans (Xr.Kp.below ((Below.refl _ _).drew))).trans ((unhide HK5).more (fun q hq => by cases hq))).trans ((unhide HK6).more (fun q hq => by cases hq))) (unhide HSH) (unhide HRS).1 rfl (unhide HRS).2
 · skip
   have b1 : (c.k == 1) = false := by rw [hkk]; rfl
   have b2 : (c.k == 2) = false := by rw [hkk]; rfl
   have b3 : (c.k == 3) = false := by rw [hkk]; rfl
   have b4 : (c.k == 4) = false := by rw [hkk]; rfl
   have b5 : (c.k == 5) = false := by rw [hkk]; rfl
   have b6 : (c.k == 6) = true := by rw [hkk]; rfl
   have hoe := (unhide HSH).okX hex (w5 (by omega) (by omega))
   have HVL := hide (fun (V : World) (ev' : Value) (hJ : Xr.J w0 V br fs s1 ev' bf gv vb f1) => show Calls Tryz.prog 131 #[.pointer (some ⟨br, 0, none⟩), .pointer (some ⟨bf, 0, none⟩), .agg #[.int .i64 c.ex.k, .int .i64 c.ex.n, .slice c.ex.args.ad c.ex.args.len c.ex.args.cap]] V fun r W' => r = .returned (.int .i64 (Xr.valV s1 f1 y.2.1.2.1)) ∧ ∃ ev'', Xr.M w0 W' br fs (Xr.valS s1 f1 y.2.1.2.1) ev'' ∧ Xr.Kp br ev' ev'' [] V W' from value_any m c.ex y.2.1.2.1 V hJ hex hoe ((unhide HINV).inv.rm.le (by omega)))
   have HT := hide (show T = if Xr.valV s1 f1 y.2.1.2.1 ≠ 0 then Xr.cmds (Xr.call p d) j y.2.2.1 (a + 1) (Xr.valS s1 f1 y.2.1.2.1) f1 else Xr.cmds (Xr.call p d) j y.2.2.2 (a + 1 + Pg.cnts y.2.2.1) (Xr.valS s1 f1 y.2.1.2.1) f1 by rw [unhide HTD]; unfold Xr.cmdT; rw [if_neg (by omega), if_neg (by omega), if_neg (by omega), if_neg (by omega), if_neg (by omega), if_pos (by omega)])
   have hI2 := ((unhide HINV).inv.val f1 y.2.1.2.1)
   have HI2 := hide (fun k (hk : Xr.Inv1 s1 k) => (hk.inv.le (show k ≤ k + 6 by omega)).val f1 y.2.1.2.1)
   have hfv := Xr.fuel_val s1 f1 y.2.1.2.1
   have HC1 := hide (fun (V : World) (ev' : Value) (hJ : Xr.J w0 V br fs (Xr.valS s1 f1 y.2.1.2.1) ev' bf gv vb f1) => show Calls Tryz.prog 106 #[.pointer (some ⟨br, 0, none⟩), .pointer (some ⟨bf, 0, none⟩), .slice c.thn.ad c.thn.len c.thn.cap, .int .i64 ((a : Int) + 1)] V (Xr.Post w0 br fs x.sizes bf gv vb V ev' (Xr.valS s1 f1 y.2.1.2.1) f1 (Xr.cmds (Xr.call p d) j y.2.2.1 (a + 1) (Xr.valS s1 f1 y.2.1.2.1) f1)) from hcs now x (unhide HX) c.thn y.2.2.1 (a + 1) V _ ev' bf gv vb f1 hJ hrt hwt (unhide HSH) hd1 (hI2.le (by omega)) (by omega))
   have HC2 := hide (fun (V : World) (ev' : Value) (hJ : Xr.J w0 V br fs (Xr.valS s1 f1 y.2.1.2.1) ev' bf gv vb f1) => show Calls Tryz.prog 106 #[.pointer (some ⟨br, 0, none⟩), .pointer (some ⟨bf, 0, none⟩), .slice c.els.ad c.els.len c.els.cap, .int .i64 ((a : Int) + 1 + (Pg.cnts y.2.2.1 : Int))] V (Xr.Post w0 br fs x.sizes bf gv vb V ev' (Xr.valS s1 f1 y.2.1.2.1) f1 (Xr.cmds (Xr.call p d) j y.2.2.2 (a + 1 + Pg.cnts y.2.2.1) (Xr.valS s1 f1 y.2.1.2.1) f1)) from by
    have := hcs now x (unhide HX) c.els y.2.2.2 (a + 1 + Pg.cnts y.2.2.1) V _ ev' bf gv vb f1 hJ hrl hwe (unhide HSH) hd1 (hI2.le (by omega)) (by omega)
    rw [show ((a + 1 + Pg.cnts y.2.2.1 : Nat) : Int) = (a : Int) + 1 + (Pg.cnts y.2.2.1 : Int) by omega] at this
    exact this)
   have HCN := hide (fun (V : World) (hV : Below w0.heap.size w0 V) => count_any j c.thn y.2.2.1 V (hrt.laterC hV (Nat.le_refl _)) (by omega))
   have hcc1 : Pg.cnts y.2.2.1 ≤ 1000 := by omega
   generalize Xr.cmds (Xr.call p d) j y.2.2.1 (a + 1) (Xr.valS s1 f1 y.2.1.2.1) f1 = T1 at *
   generalize Xr.cmds (Xr.call p d) j y.2.2.2 (a + 1 + Pg.cnts y.2.2.1) (Xr.valS s1 f1 y.2.1.2.1) f1 = T2 at *
   generalize Xr.valV s1 f1 y.2.1.2.1 = vv at *
   generalize Xr.valS s1 f1 y.2.1.2.1 = s2 at *
   generalize Pg.cnts y.2.2.1 = C1 at *
   clear hk hv hkk hcall hcs hrt hrl hag hix hex w1 w2 w3 w4 w5 w6 hwt hwe hI2 hoe hcn
   go_wp2_with fail
   refine ((unhide HVL) _ _ (unhide HJ1)).mono ?_
   rintro r w5 ⟨rfl, ev5, hm5, hk5⟩
   have hs5 := hk5.safe (unhide HS1).1 (by simp)
   have HS5 := hide hs5
   have HJ5 := hide ((unhide HJ1).told hm5 hk5 (fun q hq => by cases hq))
   have HK5 := hide ((unhide HK1).trans (hk5.more (fun q hq => by cases hq)))
   clear q0 q1 q2 q3 q4 q5 q6 q7 q8 q9 q10 q11
   obtain ⟨q0, q1, q2, q3, q4, q5, q6, q7, q8, q9, q10, q11⟩ := (unhide HCC) w5 hs5.2
   clear hm5 hk5 hs5
   by_cases hvv : vv = 0
   · have bv : (vv != 0) = false := by simp [hvv]
     have HT2 := hide (show T = T2 by rw [unhide HT, if_neg (by simp [hvv])])
     clear hvv
     have hw1 : IntKind.i64.wrap ((a : Int) + 1) = (a : Int) + 1 := Xr.wrap_id (by omega) (by omega)
     have hw2 : IntKind.i64.wrap ((a : Int) + 1 + (C1 : Int)) = (a : Int) + 1 + (C1 : Int) := Xr.wrap_id (by omega) (by omega)
     go_upto_region 16 with fail
     have HKM := hide (show (fun V : World => V.cell? ⟨W.heap.size, 10, none⟩ = some (.slice c.thn.ad c.thn.len c.thn.cap) ∧ V.cell? ⟨W.heap.size, 11, none⟩ = some (.slice c.els.ad c.els.len c.els.cap)) w5.drew from ⟨q10, q11⟩)
     clear q0 q1 q2 q3 q4 q5 q6 q7 q8 q9 q10 q11
     go_region_held3 (fun V => V.cell? ⟨W.heap.size, 10, none⟩ = some (.slice c.thn.ad c.thn.len c.thn.cap) ∧ V.cell? ⟨W.heap.size, 11, none⟩ = some (.slice c.els.ad c.els.len c.els.cap))
      (first | assumption | exact unhide HKM | exact unhide HA6 | exact unhide HA7)
      (first
       | (go_at_call 105; refine ((unhide HCN) _ ?_).mono ?_; exact ((unhide HJ5).below ((Below.refl _ _).drew)).m.bel; rintro r w6 ⟨rfl, hb6⟩; have hk6 := Xr.Kp.below (br := br) (ev := ev5) (ws := Xr.ws bf vb) hb6; have hs6 := hk6.safe (q := W.heap.size) ⟨(unhide HS5).1.lt, (unhide HS5).1.br, (unhide HS5).1.ev⟩ (unhide HNW); have HS6 := hide hs6; have HK6 := hide hk6; have HJ6 := hide (((unhide HJ5).below ((Below.refl _ _).drew)).below hb6); have hcc := (unhide HCC) w6 (hs6.2.trans (unhide HS5).2); have HA6 := hide (show (fun V : World => V.cell? ⟨W.heap.size, 10, none⟩ = some (.slice c.thn.ad c.thn.len c.thn.cap) ∧ V.cell? ⟨W.heap.size, 11, none⟩ = some (.slice c.els.ad c.els.len c.els.cap)) w6 from ⟨hcc.2.2.2.2.2.2.2.2.2.2.1, hcc.2.2.2.2.2.2.2.2.2.2.2⟩); clear hb6 hk6 hs6 hcc)
       | (go_at_call 106; refine ((unhide HC2) _ ev5 ?_).mono ?_; exact unhide HJ6; rintro r w7 ⟨rfl, ev7, hJ7, hk7, h5, h6, h7, h8⟩; have hs7 := hk7.safe (unhide HS6).1 (unhide HNW); have HJ7 := hide hJ7; have HK7 := hide hk7; have HR7 := hide (And.intro h5 (And.intro h6 (And.intro h7 h8))); have hcc := (unhide HCC) w7 (hs7.2.trans ((unhide HS6).2.trans (unhide HS5).2)); have HA7 := hide (show (fun V : World => V.cell? ⟨W.heap.size, 10, none⟩ = some (.slice c.thn.ad c.thn.len c.thn.cap) ∧ V.cell? ⟨W.heap.size, 11, none⟩ = some (.slice c.els.ad c.els.len c.els.cap)) w7 from ⟨hcc.2.2.2.2.2.2.2.2.2.2.1, hcc.2.2.2.2.2.2.2.2.2.2.2⟩); clear hJ7 hk7 h5 h6 h7 h8 hs7 hcc))
     all_goals
      go_wp2_with fail
      go_end0
      exact (unhide HDN) _ _ _ _ (unhide HT2) rfl (unhide HJ7) ((((unhide HK5).trans (Xr.Kp.below ((Below.refl _ _).drew))).trans (unhide HK6)).trans (unhide HK7)) (unhide HR7).1 (fun k hk => (unhide HR7).2.1 k ((unhide HI2) k hk)) (unhide HR7).2.2.1 (by have := (unhide HR7).2.2.2; omega)
   · have bv : (vv != 0) = true := by simpa using hvv
     have HT2 := hide (show T = T1 by rw [unhide HT, if_pos hvv])
     clear hvv
     go_wp2_with fail
     refine ((unhide HC1) _ _ (unhide HJ5)).mono ?_
     rintro r w7 ⟨rfl, ev7, hJ7, hk7, h5, h6, h7, h8⟩
     have HJ7 := hide hJ7
     have HK7 := hide hk7
     have HR7 := hide (And.intro h5 (And.intro h6 (And.intro h7 h8)))
     clear hJ7 hk7 h5 h6 h7 h8
     go_wp2_with fail
     go_end0
     exact (unhide HDN) _ _ _ _ (unhide HT2) rfl (unhide HJ7) ((unhide HK5).trans (unhide HK7)) (unhide HR7).1 (fun k hk => (unhide HR7).2.1 k ((unhide HI2) k hk)) (unhide HR7).2.2.1 (by have := (unhide HR7).2.2.2; omega)
 · skip
   have b1 : (c.k == 1) = false := by rw [hkk]; rfl
   have b2 : (c.k == 2) = false := by rw [hkk]; rfl
   have b3 : (c.k == 3) = false := by rw [hkk]; rfl
   have b4 : (c.k == 4) = false := by rw [hkk]; rfl
   have b5 : (c.k == 5) = false := by rw [hkk]; rfl
   have b6 : (c.k == 6) = false := by rw [hkk]; rfl
   have b7 : (c.k == 7) = true := by rw [hkk]; rfl
   have HT := hide (show T = Xr.loop (Xr.cmds (Xr.call p d) j y.2.2.1 (a + 1)) y.2.1.2.1 (a : Nat) (s1.fuel + 2) s1 f1 by rw [unhide HTD]; unfold Xr.cmdT; rw [if_neg (by omega), if_neg (by omega), if_neg (by omega), if_neg (by omega), if_neg (by omega), if_neg (by omega)])
   have hce := w5 (by omega) (by omega)
   have HVL := hide (fun (V : World) (ev' : Value) (s2 : Xr.S) (f2 : Xr.F) (hJ : Xr.J w0 V br fs s2 ev' bf gv vb f2) (hs : Xr.Sh f2.vs x.sizes) (hr : Xr.Rm s2 4000) => show Calls Tryz.prog 131 #[.pointer (some ⟨br, 0, none⟩), .pointer (some ⟨bf, 0, none⟩), .agg #[.int .i64 c.ex.k, .int .i64 c.ex.n, .slice c.ex.args.ad c.ex.args.len c.ex.args.cap]] V fun r W' => r = .returned (.int .i64 (Xr.valV s2 f2 y.2.1.2.1)) ∧ ∃ ev'', Xr.M w0 W' br fs (Xr.valS s2 f2 y.2.1.2.1) ev'' ∧ Xr.Kp br ev' ev'' [] V W' from value_any m c.ex y.2.1.2.1 V hJ hex (hs.okX hex hce) hr)
   have HC1 := hide (fun (V : World) (ev' : Value) (s2 : Xr.S) (f2 : Xr.F) (hJ : Xr.J w0 V br fs s2 ev' bf gv vb f2) (hs : Xr.Sh f2.vs x.sizes) (hdd : f2.deep = f1.deep) (hi : Xr.Inv s2 0) => show Calls Tryz.prog 106 #[.pointer (some ⟨br, 0, none⟩), .pointer (some ⟨bf, 0, none⟩), .slice c.thn.ad c.thn.len c.thn.cap, .int .i64 ((a : Int) + 1)] V (Xr.Post w0 br fs x.sizes bf gv vb V ev' s2 f2 (Xr.cmds (Xr.call p d) j y.2.2.1 (a + 1) s2 f2)) from hcs now x (unhide HX) c.thn y.2.2.1 (a + 1) V s2 ev' bf gv vb f2 hJ hrt hwt hs (by rw [hdd]; exact hd1) hi (by omega))
   have HLO := hide (fun (k : Nat) (s2 : Xr.S) (f2 : Xr.F) => show Xr.loop (Xr.cmds (Xr.call p d) j y.2.2.1 (a + 1)) y.2.1.2.1 (a : Nat) (k + 1) s2 f2 = if Xr.valV s2 f2 y.2.1.2.1 = 0 then (Xr.valS s2 f2 y.2.1.2.1, f2) else Xr.loop (Xr.cmds (Xr.call p d) j y.2.2.1 (a + 1)) y.2.1.2.1 (a : Nat) k (Xr.stepS (Xr.cmds (Xr.call p d) j y.2.2.1 (a + 1) (Xr.valS s2 f2 y.2.1.2.1) f2).1 (Xr.cmds (Xr.call p d) j y.2.2.1 (a + 1) (Xr.valS s2 f2 y.2.1.2.1) f2).2 (a : Nat)) (Xr.stepF (Xr.cmds (Xr.call p d) j y.2.2.1 (a + 1) (Xr.valS s2 f2 y.2.1.2.1) f2).1 (Xr.cmds (Xr.call p d) j y.2.2.1 (a + 1) (Xr.valS s2 f2 y.2.1.2.1) f2).2 (a : Nat)) from rfl)
   have HL0 := hide (show Xr.Lp w0 br fs x.sizes bf gv vb W ev s1 f1 v1 W.heap.size T (Xr.loop (Xr.cmds (Xr.call p d) j y.2.2.1 (a + 1)) y.2.1.2.1 (a : Nat)) (s1.fuel + 2) v1 from ⟨s1, f1, ev1, unhide HJ1, unhide HK1, (unhide HS1).1, rfl, unhide HT, ⟨by omega, fun _ => Nat.le_refl _⟩, unhide HSH, fun k hk => hk.inv.le (by omega), rfl, Nat.le_refl _⟩)
   have HCD := hide (fun (V : World) (ev' : Value) (s2 : Xr.S) (f2 : Xr.F) (hJ : Xr.J w0 V br fs s2 ev' bf gv vb f2) (hr : Xr.Inv s2 0) => step_any (a : Nat) V hJ (fun e => by have := hr.rm e; omega) (by have := hr.fuel; omega))
   clear hk hv hkk hcall hcs hrt hrl hag hix hex w1 w2 w3 w4 w5 w6 hwt hwe hcn hce
   generalize Xr.loop (Xr.cmds (Xr.call p d) j y.2.2.1 (a + 1)) y.2.1.2.1 (a : Nat) = LF at *
   generalize Xr.cmds (Xr.call p d) j y.2.2.1 (a + 1) = BF at *
   generalize s1.fuel + 2 = K0 at *
   go_wp2_with fail
   clear q0 q1 q2 q3 q4 q5 q6 q7 q8 q9 q10 q11
   go_loopg [] K0 (fun k wr => Xr.Lp w0 br fs x.sizes bf gv vb W ev s1 f1 v1 W.heap.size T LF k wr)
   case atStart => exact unhide HL0
   case round =>
    obtain ⟨s2, f2, ev2, hJ2, hk2, hs2, hb2, ht2, ⟨hk1, hkf⟩, hsh2, hin2, hdp2, hfu2⟩ := hrel.it
    obtain ⟨gk', rfl⟩ : ∃ g, gk = g + 1 := ⟨gk - 1, by omega⟩
    have HLS := hide ((unhide HLO) gk' s2 f2)
    have HV2 := hide ((unhide HVL) wr ev2 s2 f2 hJ2 hsh2 ((hin2 0 (unhide HINV)).rm.le (by omega)))
    obtain ⟨q0, q1, q2, q3, q4, q5, q6, q7, q8, q9, q10, q11⟩ := (unhide HCC) wr hb2
    have HJ2 := hide hJ2
    have HK2 := hide hk2
    have HS2 := hide (And.intro hs2 hb2)
    have HT2 := hide ht2
    have HP2 := hide (And.intro hkf (And.intro hsh2 (And.intro hin2 (And.intro hdp2 hfu2))))
    have HFV := hide (Xr.fuel_val s2 f2 y.2.1.2.1)
    have HVG := hide (fun (hne : Xr.valV s2 f2 y.2.1.2.1 ≠ 0) => Xr.val_go hne)
    have HIV := hide (fun k (hk : Xr.Inv1 s1 k) => (hin2 k hk).val f2 y.2.1.2.1)
    clear hJ2 hk2 hs2 hb2 ht2 hkf hsh2 hin2 hdp2 hfu2 hrel hk1
    generalize Xr.valV s2 f2 y.2.1.2.1 = vv at *
    generalize Xr.valS s2 f2 y.2.1.2.1 = s3 at *
    go_wp2_with fail
    refine (unhide HV2).mono ?_
    rintro r w5 ⟨rfl, ev5, hm5, hk5⟩
    have hs5 := hk5.safe (unhide HS2).1 (by simp)
    have HS5 := hide (And.intro hs5.1 (hs5.2.trans (unhide HS2).2))
    have HJ5 := hide ((unhide HJ2).told hm5 hk5 (fun q hq => by cases hq))
    have HK5 := hide ((unhide HK2).trans (hk5.more (fun q hq => by cases hq)))
    clear q0 q1 q2 q3 q4 q5 q6 q7 q8 q9 q10 q11 hm5 hk5 hs5
    by_cases hvv : vv = 0
    · have bv : (vv != 0) = false := by simp [hvv]
      have HT3 := hide (show T = (s3, f2) by rw [unhide HT2, unhide HLS, if_pos hvv])
      clear hvv
      go_wp2_with fail
      go_end0
      exact (unhide HDN) _ _ _ _ (unhide HT3) rfl (unhide HJ5) (unhide HK5) (unhide HP2).2.1 (unhide HIV) (unhide HP2).2.2.2.1 (by show s3.fuel ≤ s1.fuel; rw [unhide HFV]; exact (unhide HP2).2.2.2.2)
    · have bv : (vv != 0) = true := by simpa using hvv
      have hg2 := (unhide HP2).1 ((unhide HVG) hvv)
      have HT3 := hide (show T = LF gk' (Xr.stepS (BF s3 f2).1 (BF s3 f2).2 (a : Nat)) (Xr.stepF (BF s3 f2).1 (BF s3 f2).2 (a : Nat)) by rw [unhide HT2, unhide HLS, if_neg hvv])
      have HC5 := hide ((unhide HC1) w5 ev5 s3 f2 (unhide HJ5) (unhide HP2).2.1 (unhide HP2).2.2.2.1 ((unhide HIV) 0 (unhide HINV)))
      obtain ⟨q0, q1, q2, q3, q4, q5, q6, q7, q8, q9, q10, q11⟩ := (unhide HCC) w5 (unhide HS5).2
      generalize hT4 : BF s3 f2 = T4 at *
      clear hT4 hvv
      go_wp2_with fail
      refine (unhide HC5).mono ?_
      rintro r w6 ⟨rfl, ev6, hJ6, hk6, h5, h6, h7, h8⟩
      have hs6 := hk6.safe (unhide HS5).1 (unhide HNW)
      have HS6 := hide (And.intro hs6.1 (hs6.2.trans (unhide HS5).2))
      have HJ6 := hide hJ6
      have HK6 := hide ((unhide HK5).trans hk6)
      have HR6 := hide (And.intro h5 (And.intro h6 (And.intro h7 h8)))
      have HCD6 := hide ((unhide HCD) w6 ev6 T4.1 T4.2 hJ6 (h6 0 ((unhide HIV) 0 (unhide HINV))))
      clear hJ6 hk6 h5 h6 h7 h8 hs6 q0 q1 q2 q3 q4 q5 q6 q7 q8 q9 q10 q11
      go_wp2_with fail
      refine (unhide HCD6).mono ?_
      rintro r w7 ⟨rfl, ev7, hJ7, hk7⟩
      have hs7 := hk7.safe (unhide HS6).1 (unhide HNW)
      have HLN := hide (show Xr.Lp w0 br fs x.sizes bf gv vb W ev s1 f1 v1 W.heap.size T LF gk' w7 from ⟨_, _, ev7, hJ7, (unhide HK6).trans hk7, hs7.1, hs7.2.trans (unhide HS6).2, unhide HT3, ⟨by omega, fun e => by have h1 := Xr.step_end T4.1 T4.2 (a : Nat) e; have h2 := (unhide HR6).2.2.2; have h3 := unhide HFV; omega⟩, by rw [Xr.vs_step]; exact (unhide HR6).1, fun k hk => ((unhide HR6).2.1 k ((unhide HIV) k hk)).step' _ _, by rw [Xr.deep_step]; exact (unhide HR6).2.2.1.trans (unhide HP2).2.2.2.1, by have h1 := Xr.fuel_step T4.1 T4.2 (a : Nat); have h2 := (unhide HR6).2.2.2; have h3 := unhide HFV; have h4 := (unhide HP2).2.2.2.2; omega⟩)
      clear hJ7 hk7 hs7
      go_wp2_with fail
      go_roundg gk'
      case measure => omega
      case rel => exact unhide HLN
end
end Go.Proofs.YtpfogjplnodacaaGreat
