/-
  FQ, FQ2, RMem, RTop, RPop, RZero. By the verifier.
-/
import Derived.Test.YtpfogjplnodacaaGreatPLeaf
import Derived.Deep.QuietTactic
import Derived.Deep.LoopGhost
import Derived.Test.YtpfogjplnodacaaGreatLG
import Derived.Deep.RegionHeld3
import Derived.Deep.RegionLaw
set_option maxRecDepth 100000
set_option maxHeartbeats 3200000
namespace Go.Proofs.YtpfogjplnodacaaGreat
open Go.RowKit
set_option linter.unusedVariables false
def Fq.find (n : Nat) : Code → Option Code
 | .region id ops d => if Nat.beq id n then some (.region id ops d) else none
 | .seq a b => match Fq.find n a with | some c => some c | none => Fq.find n b
 | .cond _ a b => match Fq.find n a with | some c => some c | none => Fq.find n b
 | .block _ a => Fq.find n a
 | .loop a => Fq.find n a
 | _ => none
def Fq.reg (F : Func) (n : Nat) : Code := (Fq.find n (F.body.getD .skip)).getD .skip
structure Fq.Kp (n : Nat) (T T' : Array Value) : Prop where
 size : T'.size = T.size
 at_ : ∀ k, k < n → T'[k]? = T[k]?
theorem Fq.Kp.refl (n : Nat) (T : Array Value) : Fq.Kp n T T := ⟨rfl, fun _ _ => rfl⟩
theorem Fq.Kp.trans {n : Nat} {T T' T'' : Array Value} (h : Fq.Kp n T T') (h2 : Fq.Kp n T' T'') : Fq.Kp n T T'' := ⟨h2.size.trans h.size, fun k hk => (h2.at_ k hk).trans (h.at_ k hk)⟩
theorem Fq.set_ne (T : Array Value) {d k : Nat} (h : d ≠ k) (v : Value) : (T.setIfInBounds d v)[k]? = T[k]? := Array.getElem?_setIfInBounds_ne h
theorem Fq.set_at (T : Array Value) {d : Nat} (h : d < T.size) (v : Value) : (T.setIfInBounds d v)[d]? = some v := Array.getElem?_setIfInBounds_self_of_lt h
theorem Fq.el {T : Array Value} {k : Nat} {v : Value} (h : T[k]? = some v) (hk : k < T.size) : T[k] = v := by
 rw [Array.getElem?_eq_getElem hk] at h
 exact Option.some.inj h
theorem Fq.gd {T : Array Value} {k : Nat} {v : Value} (h : T[k]? = some v) : T.getD k (.tuple #[]) = v := by
 rw [Array.getD_eq_getD_getElem?, h]
 rfl
theorem Fq.Kp.set {n d : Nat} {T T' : Array Value} (h : Fq.Kp n T T') (hd : n ≤ d) (v : Value) : Fq.Kp n T (T'.setIfInBounds d v) :=
 ⟨by rw [Array.size_setIfInBounds]; exact h.size, fun k hk => (Fq.set_ne T' (by omega) v).trans (h.at_ k hk)⟩
theorem Fq.Kp.mono {n n' : Nat} {T T' : Array Value} (h : Fq.Kp n T T') (hn : n' ≤ n) : Fq.Kp n' T T' := ⟨h.size, fun k hk => h.at_ k (by omega)⟩
def Fq.ls (T : Array Value) (n : Nat) : List Value := (List.range n).map (fun i => T.getD i (.tuple #[]))
theorem Fq.ls_is {T : Array Value} {n : Nat} (h : T.size = n) : T = (Fq.ls T n).toArray := by
 refine Array.ext ?_ ?_
 · simp [Fq.ls, h]
 · intro i h1 h2
   simp [Fq.ls, Array.getD, h1]
theorem Fq.cond_true {P : Program} {Q : Exit → Act → World → Prop} {T : Array Value} {w : World} {k : Nat} {x y : Code} (h : T[k]? = some (.bool true)) (hx : x.wp P Q ⟨T, []⟩ w) : (Code.cond (.tmp k) x y).wp P Q ⟨T, []⟩ w := wp_cond_true (show T.getD k (.tuple #[]) = _ from Fq.gd h) hx
theorem Fq.cond_false {P : Program} {Q : Exit → Act → World → Prop} {T : Array Value} {w : World} {k : Nat} {x y : Code} (h : T[k]? = some (.bool false)) (hy : y.wp P Q ⟨T, []⟩ w) : (Code.cond (.tmp k) x y).wp P Q ⟨T, []⟩ w := wp_cond_false (show T.getD k (.tuple #[]) = _ from Fq.gd h) hy
end Go.Proofs.YtpfogjplnodacaaGreat
namespace Go.Proofs.YtpfogjplnodacaaGreat
open Go.RowKit
set_option linter.unusedVariables false
def Fq.findB (n : Nat) : Code → Option Code
 | .seq a b => match Fq.findB n a with | some c => some c | none => Fq.findB n b
 | .cond _ a b => match Fq.findB n a with | some c => some c | none => Fq.findB n b
 | .block id a => if Nat.beq id n then some a else Fq.findB n a
 | .loop a => Fq.findB n a
 | _ => none
def Fq.blk (F : Func) (n : Nat) : Code := (Fq.findB n (F.body.getD .skip)).getD .skip
def Fq.N (K : Act → World → Prop) : Exit → Act → World → Prop
 | .normal, a, w => K a w
 | _, _, _ => False
theorem Fq.norm {P : Program} {Q : Exit → Act → World → Prop} {a : Act} {w : World} {x : Code} (K : Array Value → World → Prop) (hQ : ∀ T' v, K T' v → Q .normal ⟨T', []⟩ v) (h : x.wp P (Fq.N fun a v => a.defers = [] ∧ K a.tmps v) a w) : x.wp P Q a w :=
 Code.wp_mono (Q := Fq.N fun a v => a.defers = [] ∧ K a.tmps v) (fun e a v h => by
  cases e with
  | normal =>
   obtain ⟨T', ds⟩ := a
   obtain ⟨h1, h2⟩ := h
   have h1' : ds = [] := h1
   subst h1'
   exact hQ T' v h2
  | _ => exact False.elim h) h
section
variable {P : Program} {Q : Exit → Act → World → Prop} {K : Act → World → Prop} {a : Act} {w : World} {T : Array Value}
theorem Fq.fr {T2 : Array Value} {x : Code} (h : T = T2) (hw : x.wp P Q ⟨T2, []⟩ w) : x.wp P Q ⟨T, []⟩ w := h ▸ hw
theorem Fq.at_ (F : Func) (n : Nat) {c : Code} (h : Fq.reg F n = c) (hw : (Fq.reg F n).wp P Q a w) : c.wp P Q a w := h ▸ hw
theorem Fq.in_ (F : Func) (n : Nat) {c : Code} (h : Fq.blk F n = c) (hw : (Fq.blk F n).wp P Q a w) : c.wp P Q a w := h ▸ hw
theorem Fq.cut {x y : Code} (I : Array Value → World → Prop) (h1 : ∀ Q' : Exit → Act → World → Prop, (∀ T' v, I T' v → Q' .normal ⟨T', []⟩ v) → x.wp P Q' ⟨T, []⟩ w) (h2 : ∀ T' v, I T' v → y.wp P Q ⟨T', []⟩ v) : (Code.seq x y).wp P Q ⟨T, []⟩ w :=
 wp_seq (h1 _ (fun T' v h => h2 T' v h))
theorem Fq.ok (h : K a w) : Exit.then K Q .normal a w := h
theorem Fq.thR (h : Q .ret a w) : Exit.then K Q .ret a w := h
theorem Fq.blR {id : Nat} (h : Q .ret a w) : Exit.inBlock id Q .ret a w := h
theorem Fq.blN {id : Nat} (h : Q .normal a w) : Exit.inBlock id Q .normal a w := h
theorem Fq.thX {k : Nat} (h : Q (.exit k) a w) : Exit.then K Q (.exit k) a w := h
theorem Fq.blX {id : Nat} (h : Q .normal a w) : Exit.inBlock id Q (.exit id) a w := by
 show if id = id then Q .normal a w else Q (.exit id) a w
 rw [if_pos rfl]
 exact h
theorem Fq.skip (h : Q .normal a w) : Code.skip.wp P Q a w := wp_skip h
theorem Fq.ret {fn : Func} {R : Ending → World → Prop} {t : Nat} {v : Value} (hr : fn.results = #[.tmp t]) (ht : T[t]? = some v) (hR : R (.returned v) w) : bodyPost P fn R .ret ⟨T, []⟩ w :=
 bodyPost_ret (v := v) (by rw [results_tmp hr]; congr 1; exact Fq.gd ht) rfl hR
theorem Fq.cond (k : Nat) {x y : Code} {b : Bool} (h : T[k]? = some (.bool b)) (hx : b = true → x.wp P Q ⟨T, []⟩ w) (hy : b = false → y.wp P Q ⟨T, []⟩ w) : (Code.cond (.tmp k) x y).wp P Q ⟨T, []⟩ w := by
 cases b with
 | true => exact Fq.cond_true h (hx rfl)
 | false => exact Fq.cond_false h (hy rfl)
end
end Go.Proofs.YtpfogjplnodacaaGreat
namespace Go.Proofs.YtpfogjplnodacaaGreat
open Go.RowKit Go.Maps
set_option linter.unusedVariables false
def Rm.zeros (sz : List Int) : List (List Int) := sz.map fun n => List.replicate (max n 1).toNat 0
structure Rm.Zf (W : World) (lo : Nat) (gv : Option Nat) (vb : List Nat) (c : Nat) (vs : List (List Int)) : Prop where
 ge : ∀ q ∈ gv.toList ++ vb, lo ≤ q ∧ q < W.heap.size
 nd : (gv.toList ++ vb).Nodup
 cap : vs.length ≤ c
 len : vb.length = vs.length
 few : vs.length ≤ 2000000
 at_ : ∀ i b l, vb[i]? = some b → vs[i]? = some l → ∃ g c', gv = some g ∧ W.cell? ⟨g, i, none⟩ = some (.slice (some ⟨b, 0, none⟩) l.length c') ∧ l.length ≤ c' ∧ l.length ≤ 100 ∧ (∀ j z, l[j]? = some z → W.cell? ⟨b, j, none⟩ = some (.int .i64 z)) ∧ ∀ j, W.frozen? ⟨b, j, none⟩ = false
theorem Rm.Zf.kept {W W' : World} {lo : Nat} {gv : Option Nat} {vb : List Nat} {c : Nat} {vs : List (List Int)} (h : Rm.Zf W lo gv vb c vs) (hz : W.heap.size ≤ W'.heap.size) (hk : ∀ q ∈ gv.toList ++ vb, W'.heap[q]? = W.heap[q]?) : Rm.Zf W' lo gv vb c vs := by
 refine ⟨fun q hq => ⟨(h.ge q hq).1, Nat.lt_of_lt_of_le (h.ge q hq).2 hz⟩, h.nd, h.cap, h.len, h.few, fun i b l hb hl => ?_⟩
 obtain ⟨g, c', e1, e2, e3, e4, e5, e6⟩ := h.at_ i b l hb hl
 have kg := hk g (by rw [e1]; simp)
 have kv := hk b (by have := List.mem_of_getElem? hb; simp [this])
 exact ⟨g, c', e1, (Xr.cell_kept kg i).trans e2, e3, e4, fun j z hz => (Xr.cell_kept kv j).trans (e5 j z hz), fun j => (Xr.frz_kept kv j).trans (e6 j)⟩
theorem Rm.Zf.below {W W' : World} {lo : Nat} {gv : Option Nat} {vb : List Nat} {c : Nat} {vs : List (List Int)} (h : Rm.Zf W lo gv vb c vs) (hb : Below W.heap.size W W') : Rm.Zf W' lo gv vb c vs := h.kept hb.size (fun q hq => hb.block q (h.ge q hq).2)
theorem Rm.Zf.lo {W : World} {lo lo' : Nat} {gv : Option Nat} {vb : List Nat} {c : Nat} {vs : List (List Int)} (h : Rm.Zf W lo gv vb c vs) (hl : lo' ≤ lo) : Rm.Zf W lo' gv vb c vs := ⟨fun q hq => ⟨Nat.le_trans hl (h.ge q hq).1, (h.ge q hq).2⟩, h.nd, h.cap, h.len, h.few, h.at_⟩
section
variable {W : World}
theorem Rm.Zf.set {lo : Nat} {gv : Option Nat} {vb : List Nat} {c : Nat} {vs : List (List Int)} (h : Rm.Zf W lo gv vb c vs) {v b i : Nat} {l : List Int} (hv : vs[v]? = some l) (hb : vb[v]? = some b) (hi : i < l.length) (z : Int) : Rm.Zf (W.setCell ⟨b, i, none⟩ (.int .i64 z)) lo gv vb c (Xr.upd vs v i z) := by
 have hnd := h.nd
 rw [List.nodup_append] at hnd
 obtain ⟨g0, c0, f1, f2, f3, f4, f5, f6⟩ := h.at_ v b l hb hv
 refine ⟨fun q hq => ⟨(h.ge q hq).1, by rw [World.size_setCell]; exact (h.ge q hq).2⟩, h.nd, by rw [Xr.upd_len]; exact h.cap, by rw [Xr.upd_len]; exact h.len, by rw [Xr.upd_len]; exact h.few, fun k b' l' hb' hl' => ?_⟩
 rw [Xr.upd_at hv] at hl'
 by_cases hk : k = v
 · subst hk
   rw [if_pos rfl] at hl'
   cases hl'
   rw [hb] at hb'
   cases hb'
   have hgb : g0 ≠ b := hnd.2.2 g0 (by rw [f1]; simp) b (List.mem_of_getElem? hb)
   refine ⟨g0, c0, f1, ?_, by rw [List.length_set]; exact f3, by rw [List.length_set]; exact f4, fun j y hj => ?_, fun j => by rw [World.frozen?_setCell]; exact f6 j⟩
   · rw [List.length_set, Xr.cell_kept (Xr.set_other hgb)]
     exact f2
   · rw [List.getElem?_set] at hj
     by_cases hji : i = j
     · subst hji
       rw [if_pos rfl, if_pos hi] at hj
       cases hj
       exact World.cell?_setCell_same _ _ _ (f5 i l[i] (List.getElem?_eq_getElem hi))
     · rw [if_neg hji] at hj
       rw [World.cell?_setCell_other _ _ _ _ (by intro hh; exact hji (congrArg Addr.off hh))]
       exact f5 j y hj
 · rw [if_neg hk] at hl'
   obtain ⟨g, c', e1, e2, e3, e4, e5, e6⟩ := h.at_ k b' l' hb' hl'
   have hgb : g ≠ b := hnd.2.2 g (by rw [e1]; simp) b (List.mem_of_getElem? hb)
   have hbb : b' ≠ b := fun e => by
    subst e
    have h1 := (List.getElem?_eq_some_iff.1 hb').1
    have h2 := (List.getElem?_eq_some_iff.1 hb).1
    exact hk ((List.getElem?_inj h1 hnd.2.1).1 (hb'.trans hb.symm))
   exact ⟨g, c', e1, (Xr.cell_kept (Xr.set_other hgb) k).trans e2, e3, e4, fun j y hj => (Xr.cell_kept (Xr.set_other hbb) j).trans (e5 j y hj), fun j => by rw [World.frozen?_setCell]; exact e6 j⟩
end
structure Rm.Z where
 gv : Option Nat
 vb : List Nat
 c : Nat
 pv : Value
abbrev Rm.X : Type := Vd.F × Rm.Z
def Rm.fC (x : Rm.X) : List Value := [.int .i64 (x.1.fr.num : Nat), .int .i64 (x.1.fn : Nat), .int .i64 (x.1.pc : Nat), .int .i64 x.1.fr.at_, x.2.pv, .slice (x.2.gv.map fun g => ⟨g, 0, none⟩) x.1.fr.vs.length x.2.c]
def Rm.frC : List Rm.X → List Value
 | [] => []
 | x :: r => Rm.frC r ++ Rm.fC x
theorem Rm.frC_len : ∀ ms : List Rm.X, (Rm.frC ms).length = ms.length * 6
 | [] => rfl
 | x :: r => by
  show (Rm.frC r ++ Rm.fC x).length = _
  rw [List.length_append, Rm.frC_len r, List.length_cons]
  show r.length * 6 + 6 = _
  omega
structure Rm.Fr (w0 W : World) (tg : Nat → Nat) (d : Nat) (x : Rm.X) : Prop where
 zf : Rm.Zf W w0.heap.size x.2.gv x.2.vb x.2.c x.1.fr.vs
 tz : ∀ q ∈ x.2.gv.toList ++ x.2.vb, tg q = 10 + 2 * d
 pr : W.ownsRow w0.heap.size 3 1 x.2.pv x.1.pile.length (x.1.pile.reverse.map (Value.int .i64))
 tp : ∀ q, x.2.pv.ownBlock = some q → tg q = 11 + 2 * d
def Rm.Frs (w0 W : World) (tg : Nat → Nat) : List Rm.X → Prop
 | [] => True
 | x :: r => Rm.Fr w0 W tg r.length x ∧ Rm.Frs w0 W tg r
def Rm.mb (c : Vm.Cx) (t : Pg.Sl) (fuel : Nat) (s : Xr.S) (lo : Bool) (rf ev : Value) : List Value := [.slice c.si.ad c.si.len c.si.cap, .slice c.sf.ad c.sf.len c.sf.cap, .slice c.sz.ad c.sz.len c.sz.cap, .slice t.ad t.len t.cap, .int .i64 (fuel : Nat), .int .i64 ((fuel - s.fuel : Nat) : Int), .int .i64 ((s.made + 1 : Nat) : Int), rf, ev, .bool s.ended, .bool lo]
structure Rm.J (w0 W : World) (tg : Nat → Nat) (bm : Nat) (c : Vm.Cx) (t : Pg.Sl) (fuel : Nat) (s : Xr.S) (lo : Bool) (ms : List Rm.X) (rf ev : Value) : Prop where
 bel : Below w0.heap.size w0 W
 low : ∀ q, q < w0.heap.size → tg q = 4
 hbm : w0.heap.size ≤ bm
 tb : tg bm = 0
 box : Vm.Bx W bm (Rm.mb c t fuel s lo rf ev)
 hf : s.fuel ≤ fuel
 inp : Pg.RN w0 t s.inp
 evr : W.ownsRow w0.heap.size 63 6 ev s.evs.length (Xr.evC s.evs)
 tev : ∀ q, ev.ownBlock = some q → tg q = 1
 frr : W.ownsRow w0.heap.size 61 6 rf ms.length (Rm.frC ms)
 trf : ∀ q, rf.ownBlock = some q → tg q = 2
 frs : Rm.Frs w0 W tg ms
def Rm.C (j : Nat) : Prop := j ≠ 3 ∧ j ≠ 4
section
variable {w0 W W' : World} {tg tg' : Nat → Nat} {C : Nat → Prop} {d bm : Nat} {c : Vm.Cx} {t : Pg.Sl} {fuel : Nat} {s : Xr.S} {lo : Bool} {x : Rm.X} {ms r : List Rm.X} {rf ev : Value}
theorem Rm.Fr.keep (h : Rm.Fr w0 W tg d x) (k : Vm.K C tg tg' W W') (h1 : ¬ C (10 + 2 * d)) (h2 : ¬ C (11 + 2 * d)) : Rm.Fr w0 W' tg' d x :=
 ⟨h.zf.kept k.size (fun q hq => k.blk q (h.zf.ge q hq).2 (by rw [h.tz q hq]; exact h1)), fun q hq => (k.tgk q (h.zf.ge q hq).2).trans (h.tz q hq), Xr.ow_kept h.pr (fun q hq => k.blk q (h.pr.lt q hq).2 (by rw [h.tp q hq]; exact h2)), fun q hq => (k.tgk q (h.pr.lt q hq).2).trans (h.tp q hq)⟩
theorem Rm.Frs.keep : ∀ {ms : List Rm.X}, Rm.Frs w0 W tg ms → Vm.K C tg tg' W W' → (∀ j, 10 ≤ j → j < 10 + 2 * ms.length → ¬ C j) → Rm.Frs w0 W' tg' ms
 | [], _, _, _ => trivial
 | x :: r, h, k, hc => by
  rw [List.length_cons] at hc
  exact ⟨h.1.keep k (hc _ (by omega) (by omega)) (hc _ (by omega) (by omega)), Rm.Frs.keep h.2 k (fun j h1 h2 => hc j h1 (by omega))⟩
theorem Rm.J.lt (h : Rm.J w0 W tg bm c t fuel s lo ms rf ev) : bm < W.heap.size := h.box.lt
theorem Rm.J.belK (h : Rm.J w0 W tg bm c t fuel s lo ms rf ev) (k : Vm.K C tg tg' W W') (hc : ¬ C 4) : Below w0.heap.size w0 W' :=
 ⟨k.os.trans h.bel.os, k.tape.trans h.bel.tape, k.output.trans h.bel.output, Nat.le_trans h.bel.size k.size, fun q hq => (k.blk q (Nat.lt_of_lt_of_le hq h.bel.size) (by rw [h.low q hq]; exact hc)).trans (h.bel.block q hq)⟩
theorem Rm.J.lowK (h : Rm.J w0 W tg bm c t fuel s lo ms rf ev) (k : Vm.K C tg tg' W W') : ∀ q, q < w0.heap.size → tg' q = 4 := fun q hq => (k.tgk q (Nat.lt_of_lt_of_le hq h.bel.size)).trans (h.low q hq)
theorem Rm.J.keep (h : Rm.J w0 W tg bm c t fuel s lo ms rf ev) (k : Vm.K C tg tg' W W') (hc : ∀ j, ¬ C j) : Rm.J w0 W' tg' bm c t fuel s lo ms rf ev :=
 ⟨h.belK k (hc 4), h.lowK k, h.hbm, (k.tgk bm h.lt).trans h.tb, h.box.kept k.size (k.blk bm h.lt (hc _)), h.hf, h.inp, Xr.ow_kept h.evr (fun q hq => k.blk q (h.evr.lt q hq).2 (hc _)), fun q hq => (k.tgk q (h.evr.lt q hq).2).trans (h.tev q hq), Xr.ow_kept h.frr (fun q hq => k.blk q (h.frr.lt q hq).2 (hc _)), fun q hq => (k.tgk q (h.frr.lt q hq).2).trans (h.trf q hq), h.frs.keep k (fun j _ _ => hc j)⟩
theorem Rm.J.below (h : Rm.J w0 W tg bm c t fuel s lo ms rf ev) (hb : Below W.heap.size W W') : Rm.J w0 W' tg bm c t fuel s lo ms rf ev := h.keep (C := fun _ => False) (Vm.K.below hb) (fun _ => id)
theorem Rm.J.alloc (h : Rm.J w0 W tg bm c t fuel s lo ms rf ev) (D : Nat → Prop) (o : Obj) : Rm.J w0 (W.alloc o) (fun q => if q = W.heap.size then 3 else tg q) bm c t fuel s lo ms rf ev ∧ Vm.K D tg (fun q => if q = W.heap.size then 3 else tg q) W (W.alloc o) := by
 have hb := (Below.refl W.heap.size W).alloc (Nat.le_refl _) o
 have k : ∀ D : Nat → Prop, Vm.K D tg (fun q => if q = W.heap.size then 3 else tg q) W (W.alloc o) := fun D => (Vm.K.below hb).re (fun q hq => if_neg (by omega))
 exact ⟨h.keep (k (fun _ => False)) (fun _ => id), k D⟩
theorem Rm.J.evForm (h : Rm.J w0 W tg bm c t fuel s lo ms rf ev) : ∃ a cp, ev = .slice a s.evs.length cp := by
 rcases h.evr.2 with ⟨h1, h2⟩ | ⟨g, cap, cur, hv, _⟩
 · exact ⟨none, 0, by rw [h2]; exact h1⟩
 · exact ⟨_, _, hv⟩
theorem Rm.J.rfForm (h : Rm.J w0 W tg bm c t fuel s lo (x :: r) rf ev) : ∃ g cp, rf = .slice (some ⟨g, 0, none⟩) (r.length + 1) cp := by
 rcases h.frr.2 with ⟨h1, h2⟩ | ⟨g, cap, cur, hv, _⟩
 · simp at h2
 · exact ⟨g, cap, hv⟩
theorem Rm.J.top {g cp : Nat} (h : Rm.J w0 W tg bm c t fuel s lo (x :: r) (.slice (some ⟨g, 0, none⟩) (r.length + 1) cp) ev) (j : Nat) (v : Value) (hj : (Rm.fC x)[j]? = some v) : W.cell? ⟨g, r.length * 6 + j, none⟩ = some v := by
 have hj6 : j < 6 := (List.getElem?_eq_some_iff.1 hj).1
 have h1 := h.frr.cellAt (r.length * 6 + j) (by show r.length * 6 + j < (r.length + 1) * 6; omega)
 rw [h1]
 show (Rm.frC r ++ Rm.fC x)[r.length * 6 + j]? = _
 rw [List.getElem?_append_right (by rw [Rm.frC_len]; omega), Rm.frC_len, Nat.add_sub_cancel_left]
 exact hj
theorem Rm.J.top2 {y : Rm.X} {g cp : Nat} (h : Rm.J w0 W tg bm c t fuel s lo (x :: y :: r) (.slice (some ⟨g, 0, none⟩) (r.length + 2) cp) ev) (j : Nat) (v : Value) (hj : (Rm.fC y)[j]? = some v) : W.cell? ⟨g, r.length * 6 + j, none⟩ = some v := by
 have hj6 : j < 6 := (List.getElem?_eq_some_iff.1 hj).1
 have h1 := h.frr.cellAt (r.length * 6 + j) (by show r.length * 6 + j < (r.length + 2) * 6; omega)
 rw [h1]
 show ((Rm.frC r ++ Rm.fC y) ++ Rm.fC x)[r.length * 6 + j]? = _
 rw [List.append_assoc, List.getElem?_append_right (by rw [Rm.frC_len]; omega), Rm.frC_len, Nat.add_sub_cancel_left, List.getElem?_append_left (by exact hj6)]
 exact hj
theorem Rm.J.topFz {g cp : Nat} (h : Rm.J w0 W tg bm c t fuel s lo (x :: r) (.slice (some ⟨g, 0, none⟩) (r.length + 1) cp) ev) (j : Nat) : W.frozen? ⟨g, j, none⟩ = false := h.frr.frozenAt j
theorem Rm.J.set (h : Rm.J w0 W tg bm c t fuel s lo ms rf ev) (i : Nat) (v : Value) {t' : Pg.Sl} {s' : Xr.S} {lo' : Bool} (hi : (Rm.mb c t fuel s lo rf ev).set i v = Rm.mb c t' fuel s' lo' rf ev) (hfu : s'.fuel ≤ fuel) (hinp : Pg.RN w0 t' s'.inp) (he : s'.evs = s.evs) : Rm.J w0 (W.setCell ⟨bm, i, none⟩ v) tg bm c t' fuel s' lo' ms rf ev ∧ Vm.K Rm.C tg tg W (W.setCell ⟨bm, i, none⟩ v) := by
 have k : Vm.K (fun j => j = 0) tg tg W (W.setCell ⟨bm, i, none⟩ v) := Vm.K.refl.set bm i v (fun _ => h.tb)
 refine ⟨⟨h.belK k (by omega), h.low, h.hbm, h.tb, hi ▸ h.box.set i v, hfu, hinp, by rw [he]; exact Xr.ow_kept h.evr (fun q hq => k.blk q (h.evr.lt q hq).2 (by rw [h.tev q hq]; omega)), h.tev, Xr.ow_kept h.frr (fun q hq => k.blk q (h.frr.lt q hq).2 (by rw [h.trf q hq]; omega)), h.trf, h.frs.keep k (fun j _ _ => by omega)⟩, k.mono (fun j hj => by unfold Rm.C; omega)⟩
theorem Rm.J.told {W2 w6 : World} (h : Rm.J w0 W tg bm c t fuel s lo ms rf ev) (hb : Below W.heap.size W W2) (hg : W2.grownBy w6 ev.ownBlock) (e : Ev) (g cc : Nat)
  (ho : w6.ownsRow w0.heap.size 63 6 (.slice (some ⟨g, 0, none⟩) (s.evs.length + 1) cc) (s.evs.length + 1) (Xr.evC s.evs ++ e.cells)) (hat : ev.ownBlock = some g ∨ g = W2.heap.size) :
  Rm.J w0 (w6.setCell ⟨bm, 8, none⟩ (.slice (some ⟨g, 0, none⟩) (s.evs.length + 1) cc)) (fun q => if q = g then 1 else tg q) bm c t fuel { s with evs := s.evs ++ [e] } lo ms rf (.slice (some ⟨g, 0, none⟩) (s.evs.length + 1) cc) ∧ Vm.K Rm.C tg (fun q => if q = g then 1 else tg q) W (w6.setCell ⟨bm, 8, none⟩ (.slice (some ⟨g, 0, none⟩) (s.evs.length + 1) cc)) := by
 have hrt := Vm.retag h.tev hb.size hat
 have k : Vm.K (fun j => j = 0 ∨ j = 1) tg (fun q => if q = g then 1 else tg q) W (w6.setCell ⟨bm, 8, none⟩ (.slice (some ⟨g, 0, none⟩) (s.evs.length + 1) cc)) := (((Vm.K.below hb).grown hg (fun q hq _ => .inr (h.tev q hq))).set bm 8 _ (fun _ => .inl h.tb)).re hrt
 have hgb : g ≠ bm := by
  rintro rfl
  rcases hat with e | e
  · have := h.tev g e; rw [h.tb] at this; cases this
  · have := h.lt; have := hb.size; omega
 have kb : w6.heap[bm]? = W.heap[bm]? := (hg.block bm (Nat.lt_of_lt_of_le h.lt hb.size) (fun e => by have := h.tev bm e.symm; rw [h.tb] at this; cases this)).trans (hb.block bm h.lt)
 refine ⟨⟨h.belK k (by omega), h.lowK k, h.hbm, (k.tgk bm h.lt).trans h.tb, ?_, h.hf, h.inp, ?_, ?_, Xr.ow_kept h.frr (fun q hq => k.blk q (h.frr.lt q hq).2 (by rw [h.trf q hq]; omega)), fun q hq => (k.tgk q (h.frr.lt q hq).2).trans (h.trf q hq), h.frs.keep k (fun j _ _ => by omega)⟩, k.mono (fun j hj => by unfold Rm.C; omega)⟩
 · exact (h.box.kept (Nat.le_trans hb.size hg.size) kb).set 8 _
 · show World.ownsRow _ _ _ _ _ (s.evs ++ [e]).length (Xr.evC (s.evs ++ [e]))
   rw [Xr.evC_snoc, List.length_append]
   refine Xr.ow_kept ho (fun q hq => ?_)
   cases hq
   exact Xr.set_other hgb
 · intro q hq
   cases hq
   exact if_pos rfl
theorem Rm.frC_set (i : Nat) (v : Value) {f' : Vd.F} {z' : Rm.Z} (hi : (Rm.fC x).set i v = Rm.fC (f', z')) : (Rm.frC (x :: r)).set (r.length * 6 + i) v = Rm.frC ((f', z') :: r) := by
 show (Rm.frC r ++ Rm.fC x).set _ _ = Rm.frC r ++ _
 rw [List.set_append_right _ _ (by rw [Rm.frC_len]; omega), Rm.frC_len, Nat.add_sub_cancel_left, hi]
theorem Rm.J.setNum {g cp : Nat} (h : Rm.J w0 W tg bm c t fuel s lo (x :: r) (.slice (some ⟨g, 0, none⟩) (r.length + 1) cp) ev) (i : Nat) (v : Value) {f' : Vd.F} (hi : (Rm.fC x).set i v = Rm.fC (f', x.2)) (hv : f'.fr.vs = x.1.fr.vs) (hp : f'.pile = x.1.pile) :
  Rm.J w0 (W.setCell ⟨g, r.length * 6 + i, none⟩ v) tg bm c t fuel s lo ((f', x.2) :: r) (.slice (some ⟨g, 0, none⟩) (r.length + 1) cp) ev ∧ Vm.K Rm.C tg tg W (W.setCell ⟨g, r.length * 6 + i, none⟩ v) := by
 have k : Vm.K (fun j => j = 2) tg tg W (W.setCell ⟨g, r.length * 6 + i, none⟩ v) := Vm.K.refl.set g _ _ (fun _ => h.trf g rfl)
 refine ⟨⟨h.belK k (by omega), h.low, h.hbm, h.tb, h.box.kept k.size (k.blk bm h.lt (by rw [h.tb]; omega)), h.hf, h.inp, Xr.ow_kept h.evr (fun q hq => k.blk q (h.evr.lt q hq).2 (by rw [h.tev q hq]; omega)), h.tev, ?_, h.trf, ?_⟩, k.mono (fun j hj => by unfold Rm.C; omega)⟩
 · have h1 := (h.frr.stored (r.length * 6 + i) v).1
   rw [Rm.frC_set (x := x) (r := r) i v hi] at h1
   exact h1
 · obtain ⟨h1, h2⟩ := h.frs
   have h1' := h1.keep k (by omega) (by omega)
   exact ⟨⟨by show Rm.Zf _ _ _ _ _ f'.fr.vs; rw [hv]; exact h1'.zf, h1'.tz, by show World.ownsRow _ _ _ _ _ f'.pile.length (f'.pile.reverse.map _); rw [hp]; exact h1'.pr, h1'.tp⟩, h2.keep k (fun j h3 h4 => by omega)⟩
theorem Rm.J.setPile {g cp : Nat} (h : Rm.J w0 W tg bm c t fuel s lo (x :: r) (.slice (some ⟨g, 0, none⟩) (r.length + 1) cp) ev) (pv : Value) (q : List Int) (W1 : World)
  (k : Vm.K (fun j => j = 11 + 2 * r.length) tg tg' W W1) (ho : W1.ownsRow w0.heap.size 3 1 pv q.length (q.reverse.map (Value.int .i64))) (hat : ∀ b, pv.ownBlock = some b → tg' b = 11 + 2 * r.length) (hgb : ∀ b, pv.ownBlock = some b → b ≠ g) :
  Rm.J w0 (W1.setCell ⟨g, r.length * 6 + 4, none⟩ pv) tg' bm c t fuel s lo (({ x.1 with pile := q }, { x.2 with pv := pv }) :: r) (.slice (some ⟨g, 0, none⟩) (r.length + 1) cp) ev ∧ Vm.K Rm.C tg tg' W (W1.setCell ⟨g, r.length * 6 + 4, none⟩ pv) := by
 have hgl := (h.frr.lt g rfl).2
 have hg2 : tg g = 2 := h.trf g rfl
 have k2 : Vm.K (fun j => j = 2 ∨ j = 11 + 2 * r.length) tg tg' W (W1.setCell ⟨g, r.length * 6 + 4, none⟩ pv) := (k.mono (fun j hj => .inr hj)).set g _ _ (fun _ => .inl hg2)
 refine ⟨⟨h.belK k2 (by omega), h.lowK k2, h.hbm, (k2.tgk bm h.lt).trans h.tb, h.box.kept k2.size (k2.blk bm h.lt (by rw [h.tb]; omega)), h.hf, h.inp, Xr.ow_kept h.evr (fun q hq => k2.blk q (h.evr.lt q hq).2 (by rw [h.tev q hq]; omega)), fun q hq => (k2.tgk q (h.evr.lt q hq).2).trans (h.tev q hq), ?_, fun q hq => (k2.tgk q (h.frr.lt q hq).2).trans (h.trf q hq), ?_⟩, k2.mono (fun j hj => by unfold Rm.C; omega)⟩
 · have h0 : W1.ownsRow w0.heap.size 61 6 (.slice (some ⟨g, 0, none⟩) (r.length + 1) cp) (r.length + 1) (Rm.frC (x :: r)) := Xr.ow_kept h.frr (fun q hq => by cases hq; exact k.blk g hgl (by rw [hg2]; omega))
   have h1 := (h0.stored (r.length * 6 + 4) pv).1
   rw [Rm.frC_set (x := x) (r := r) 4 pv (f' := { x.1 with pile := q }) (z' := { x.2 with pv := pv }) rfl] at h1
   exact h1
 · obtain ⟨h1, h2⟩ := h.frs
   have hz : ∀ q ∈ x.2.gv.toList ++ x.2.vb, (W1.setCell ⟨g, r.length * 6 + 4, none⟩ pv).heap[q]? = W.heap[q]? := fun q hq => k2.blk q (h1.zf.ge q hq).2 (by rw [h1.tz q hq]; omega)
   exact ⟨⟨h1.zf.kept k2.size hz, fun q hq => (k2.tgk q (h1.zf.ge q hq).2).trans (h1.tz q hq), Xr.ow_kept ho (fun b hb => Xr.set_other (hgb b hb)), hat⟩, h2.keep k2 (fun j h3 h4 => by omega)⟩
theorem Rm.J.setVar (h : Rm.J w0 W tg bm c t fuel s lo (x :: r) rf ev) {v b i : Nat} {l : List Int} (hv : x.1.fr.vs[v]? = some l) (hb : x.2.vb[v]? = some b) (hi : i < l.length) (z : Int) :
  Rm.J w0 (W.setCell ⟨b, i, none⟩ (.int .i64 z)) tg bm c t fuel s lo (({ x.1 with fr := { x.1.fr with vs := Xr.upd x.1.fr.vs v i z } }, x.2) :: r) rf ev ∧ Vm.K Rm.C tg tg W (W.setCell ⟨b, i, none⟩ (.int .i64 z)) := by
 obtain ⟨h1, h2⟩ := h.frs
 have hbt : tg b = 10 + 2 * r.length := h1.tz b (List.mem_append_right _ (List.mem_of_getElem? hb))
 have k : Vm.K (fun j => j = 10 + 2 * r.length) tg tg W (W.setCell ⟨b, i, none⟩ (.int .i64 z)) := Vm.K.refl.set b _ _ (fun _ => hbt)
 refine ⟨⟨h.belK k (by omega), h.low, h.hbm, h.tb, h.box.kept k.size (k.blk bm h.lt (by rw [h.tb]; omega)), h.hf, h.inp, Xr.ow_kept h.evr (fun q hq => k.blk q (h.evr.lt q hq).2 (by rw [h.tev q hq]; omega)), h.tev, ?_, h.trf, ⟨⟨h1.zf.set hv hb hi z, h1.tz, Xr.ow_kept h1.pr (fun q hq => k.blk q (h1.pr.lt q hq).2 (by rw [h1.tp q hq]; omega)), h1.tp⟩, h2.keep k (fun j h3 h4 => by omega)⟩⟩, k.mono (fun j hj => by unfold Rm.C; omega)⟩
 have h3 : Rm.frC (({ x.1 with fr := { x.1.fr with vs := Xr.upd x.1.fr.vs v i z } }, x.2) :: r) = Rm.frC (x :: r) := by
  show Rm.frC r ++ _ = Rm.frC r ++ Rm.fC x
  unfold Rm.fC
  dsimp only
  rw [Xr.upd_len]
 rw [h3, List.length_cons]
 exact Xr.ow_kept h.frr (fun q hq => k.blk q (h.frr.lt q hq).2 (by rw [h.trf q hq]; omega))
theorem Rm.J.popF {y : Rm.X} {g cp : Nat} (h : Rm.J w0 W tg bm c t fuel s lo (x :: y :: r) (.slice (some ⟨g, 0, none⟩) (r.length + 2) cp) ev) :
  Rm.J w0 (W.setCell ⟨bm, 7, none⟩ (.slice (some ⟨g, 0, none⟩) (r.length + 1) cp)) tg bm c t fuel s lo (y :: r) (.slice (some ⟨g, 0, none⟩) (r.length + 1) cp) ev ∧ Vm.K Rm.C tg tg W (W.setCell ⟨bm, 7, none⟩ (.slice (some ⟨g, 0, none⟩) (r.length + 1) cp)) := by
 have k : Vm.K (fun j => j = 0) tg tg W (W.setCell ⟨bm, 7, none⟩ (.slice (some ⟨g, 0, none⟩) (r.length + 1) cp)) := Vm.K.refl.set bm _ _ (fun _ => h.tb)
 refine ⟨⟨h.belK k (by omega), h.low, h.hbm, h.tb, h.box.set 7 _, h.hf, h.inp, Xr.ow_kept h.evr (fun q hq => k.blk q (h.evr.lt q hq).2 (by rw [h.tev q hq]; omega)), h.tev, ?_, h.trf, h.frs.2.keep k (fun j h3 h4 => by omega)⟩, k.mono (fun j hj => by unfold Rm.C; omega)⟩
 have h1 : W.ownsRow w0.heap.size 61 6 (.slice (some ⟨g, 0, none⟩) (r.length + 1) cp) (r.length + 1) (Rm.frC (y :: r)) := by
  rcases h.frr.2 with ⟨h1, h2⟩ | ⟨g', cap, cur, hv, hg, hh, hc, hm, hz, ht⟩
  · simp at h2
  · have hv2 : g = g' ∧ cp = cap := by
     have hv3 : Value.slice (some ⟨g, 0, none⟩) (r.length + 2) cp = Value.slice (some ⟨g', 0, none⟩) (r.length + 2) cap := hv
     simp only [Value.slice.injEq, Option.some.injEq, Addr.mk.injEq, and_true, true_and] at hv3
     exact hv3
    obtain ⟨rfl, rfl⟩ := hv2
    have hc2 : r.length + 2 ≤ cp := hc
    have h3 : (Rm.frC (y :: r)).length = (r.length + 1) * 6 := Rm.frC_len (y :: r)
    refine ⟨h3, .inr ⟨g, cp, cur, rfl, hg, hh, by omega, hm, hz, ?_⟩⟩
    have h4 : cur.toList.take ((r.length + 2) * 6) = Rm.frC (y :: r) ++ Rm.fC x := ht
    have h5 := congrArg (List.take ((r.length + 1) * 6)) h4
    rw [List.take_take, Nat.min_eq_left (by omega), List.take_append_of_le_length (by omega)] at h5
    rw [h5, ← h3, List.take_length]
 exact Xr.ow_kept h1 (fun q hq => k.blk q (h1.lt q hq).2 (by rw [h.trf q hq]; omega))
theorem Rm.J.pushF {W1 w6 : World} (h : Rm.J w0 W1 tg bm c t fuel s lo ms rf ev) (hb : Below W1.heap.size W1 W)
  (f : Vd.F) (gv : Option Nat) (vb : List Nat) (cv : Nat) (hzf : Rm.Zf W W1.heap.size gv vb cv f.fr.vs) (hp : f.pile = [])
  (hg : W.grownBy w6 rf.ownBlock) (g cp : Nat) (ho : w6.ownsRow w0.heap.size 61 6 (.slice (some ⟨g, 0, none⟩) (ms.length + 1) cp) (ms.length + 1) (Rm.frC ms ++ Rm.fC (f, ⟨gv, vb, cv, .slice none 0 0⟩))) (hat : rf.ownBlock = some g ∨ W.heap.size ≤ g) :
  ∃ tg', Rm.J w0 (w6.setCell ⟨bm, 7, none⟩ (.slice (some ⟨g, 0, none⟩) (ms.length + 1) cp)) tg' bm c t fuel s lo ((f, ⟨gv, vb, cv, .slice none 0 0⟩) :: ms) (.slice (some ⟨g, 0, none⟩) (ms.length + 1) cp) ev ∧ Vm.K Rm.C tg tg' W1 (w6.setCell ⟨bm, 7, none⟩ (.slice (some ⟨g, 0, none⟩) (ms.length + 1) cp)) := by
 have h0 := h.bel.size
 have hbs := hb.size
 have hgl : g < W1.heap.size ∧ tg g = 2 ∨ W.heap.size ≤ g := by
  rcases hat with e | e
  · exact .inl ⟨(h.frr.lt g e).2, h.trf g e⟩
  · exact .inr e
 have hgb : g ≠ bm := by
  rintro rfl
  rcases hgl with e | e
  · have := h.tb; omega
  · have := h.lt; omega
 obtain ⟨tg', htg⟩ : ∃ tg' : Nat → Nat, tg' = fun q => if q = g then 2 else if q < W1.heap.size then tg q else 10 + 2 * ms.length := ⟨_, rfl⟩
 have told : ∀ q, q < W1.heap.size → tg' q = tg q := fun q h1 => by
  rw [htg]
  show (if q = g then 2 else _) = _
  by_cases e : q = g
  · subst e
    rw [if_pos rfl]
    rcases hgl with e | e
    · exact e.2.symm
    · omega
  · rw [if_neg e, if_pos h1]
 have tnew : ∀ q, W1.heap.size ≤ q → q < W.heap.size → tg' q = 10 + 2 * ms.length := fun q h1 h2 => by
  rw [htg]
  show (if q = g then 2 else _) = _
  rw [if_neg (by rintro rfl; rcases hgl with e | e <;> omega), if_neg (by omega)]
 have k : Vm.K (fun j => j = 0 ∨ j = 2) tg tg' W1 (w6.setCell ⟨bm, 7, none⟩ (.slice (some ⟨g, 0, none⟩) (ms.length + 1) cp)) := (((Vm.K.below hb).grown hg (fun q hq _ => .inr (h.trf q hq))).set bm _ _ (fun _ => .inl h.tb)).re told
 have kb : w6.heap[bm]? = W1.heap[bm]? := (hg.block bm (by have := h.lt; omega) (fun e => by have := h.trf bm e.symm; rw [h.tb] at this; cases this)).trans (hb.block bm h.lt)
 have knew : ∀ q, W1.heap.size ≤ q → q < W.heap.size → (w6.setCell ⟨bm, 7, none⟩ (.slice (some ⟨g, 0, none⟩) (ms.length + 1) cp)).heap[q]? = W.heap[q]? := fun q h1 h2 => (Xr.set_other (by have := h.lt; omega)).trans (hg.block q h2 (fun e => by have := (h.frr.lt q e.symm).2; omega))
 refine ⟨tg', ⟨h.belK k (by omega), h.lowK k, h.hbm, (told bm h.lt).trans h.tb, (h.box.kept (Nat.le_trans hbs hg.size) kb).set 7 _, h.hf, h.inp, Xr.ow_kept h.evr (fun q hq => k.blk q (h.evr.lt q hq).2 (by rw [h.tev q hq]; omega)), fun q hq => (told q (h.evr.lt q hq).2).trans (h.tev q hq), ?_, ?_, ⟨⟨?_, ?_, ?_, ?_⟩, ?_⟩⟩, k.mono (fun j hj => by unfold Rm.C; omega)⟩
 · exact Xr.ow_kept ho (fun q hq => by cases hq; exact Xr.set_other hgb)
 · intro q hq
   cases hq
   rw [htg]
   exact if_pos rfl
 · exact (hzf.kept (by rw [World.size_setCell]; exact hg.size) (fun q hq => knew q (hzf.ge q hq).1 (hzf.ge q hq).2)).lo h0
 · intro q hq
   exact tnew q (hzf.ge q hq).1 (hzf.ge q hq).2
 · show World.ownsRow _ _ _ _ (.slice none 0 0) f.pile.length _
   rw [hp]
   exact ⟨rfl, .inl ⟨rfl, rfl⟩⟩
 · intro q hq
   cases hq
 · exact h.frs.keep k (fun j h3 h4 => by omega)
end
end Go.Proofs.YtpfogjplnodacaaGreat
namespace Go.Proofs.YtpfogjplnodacaaGreat
open Go.RowKit Go.Maps
set_option linter.unusedVariables false
theorem rTop_any (bm g k c : Nat) (W : World) (h7 : W.cell? ⟨bm, 7, none⟩ = some (.slice (some ⟨g, 0, none⟩) (k + 1) c)) (hk : k ≤ 1000) :
  Calls Tryz.prog 41 #[.pointer (some ⟨bm, 0, none⟩)] W fun r W' => r = .returned (.pointer (some ⟨g, k * 6, none⟩)) ∧ Below W.heap.size W W' := by
 have hw0 : IntKind.i64.wrap (((k + 1 : Nat) : Int) - 1) = (k : Int) := by rw [IntKind.wrap_i64]; omega
 have hw1 : IntKind.i64.wrap ((k : Int) + 1 - 1) = (k : Int) := by rw [IntKind.wrap_i64]; omega
 have k0 : (0 : Int) ≤ (k : Int) := by omega
 have k1 : (k : Int) < ((k + 1 : Nat) : Int) := by omega
 have k2 : (k : Int) < (k : Int) + 1 := by omega
 go_enter Tryz.func41, Tryz.ntmps41
 go_upto_region 1 with fail
 go_quiet (fail)
 go_wp2_with fail
 go_ret
 exact ⟨by simp, below_drewN (Below.refl _ _) _⟩
section
variable {w0 : World} {tg : Nat → Nat} {bm : Nat} {c : Vm.Cx} {t : Pg.Sl} {fuel : Nat} {s : Xr.S} {lo : Bool} {x : Rm.X} {r : List Rm.X} {rf ev : Value}
theorem rTell_any (W : World) (h : Rm.J w0 W tg bm c t fuel s lo (x :: r) rf ev) (hr : r.length ≤ 1000) (hl : s.evs.length ≤ 1000000) (a0 a2 a3 a4 a5 : Int) :
  Calls Tryz.prog 43 #[.pointer (some ⟨bm, 0, none⟩), .int .i64 a0, .int .i64 a2, .int .i64 a3, .int .i64 a4, .int .i64 a5] W fun e W' => e = .returned (.tuple #[]) ∧ ∃ tg' ev', Rm.J w0 W' tg' bm c t fuel { s with evs := s.evs ++ [⟨a0, x.1.fr.num, a2, a3, a4, a5⟩] } lo (x :: r) rf ev' ∧ Vm.K Rm.C tg tg' W W' := by
 obtain ⟨a, cp, rfl⟩ := h.evForm
 obtain ⟨g, cf, rfl⟩ := h.rfForm
 have HT := hide (rTop_any bm g r.length cf W.drew (h.box.at_ 7 _ rfl) hr)
 have HR := hide (fun (V : World) (hV : Below W.heap.size W V) => (h.below hV).box.at_ 8 _ rfl)
 have HZ := hide (fun (V : World) (hV : Below W.heap.size W V) => (h.below hV).box.fz 8)
 have HN := hide (fun (V : World) (hV : Below W.heap.size W V) => show V.cell? ⟨g, r.length * 6, none⟩ = some (.int .i64 (x.1.fr.num : Nat)) from (h.below hV).top 0 _ rfl)
 have HROW := hide h.evr
 have HEV := hide (show ∀ q, (Value.slice a s.evs.length cp).ownBlock = some q → q < W.heap.size ∧ q ≠ bm from fun q hq => ⟨(h.evr.lt q hq).2, fun e => by have h1 := h.tev q hq; rw [e, h.tb] at h1; cases h1⟩)
 have hbl : w0.heap.size ≤ W.heap.size := h.bel.size
 have hbm : bm < W.heap.size := h.lt
 have k7 : W.cell? ⟨bm, 8, none⟩ = some (.slice a s.evs.length cp) := h.box.at_ 8 _ rfl
 have HAP := hide (fun (W2 w6 : World) (h1 : Below W.heap.size W W2) (h2 : W2.grownBy w6 (Value.slice a s.evs.length cp).ownBlock) (gA cA : Nat) (h3 : w6.ownsRow w0.heap.size 63 6 (.slice (some ⟨gA, 0, none⟩) (s.evs.length + 1) cA) (s.evs.length + 1) (Xr.evC s.evs ++ [.int .i64 a0, .int .i64 (x.1.fr.num : Nat), .int .i64 a2, .int .i64 a3, .int .i64 a4, .int .i64 a5])) (h4 : (Value.slice a s.evs.length cp).ownBlock = some gA ∨ gA = W2.heap.size) => h.told h1 h2 ⟨a0, x.1.fr.num, a2, a3, a4, a5⟩ gA cA h3 h4)
 obtain ⟨i0, hi0, hz0, hz1', hz2⟩ := info_of Tryz.infoEv
 have HI := hide hi0
 have HZ0 := hide hz0
 have HZ1 := hide hz1'
 have HZ2 := hide hz2
 clear h hi0 hz0 hz1' hz2
 generalize s.evs.length = n at *
 generalize Xr.evC s.evs = xs at *
 go_enter Tryz.func43, Tryz.ntmps43
 go_region_law (first
  | (go_simp; go_at_call 41; refine (unhide HT).mono ?_; rintro e5 w5 ⟨rfl, hb5⟩; have HBD := hide (show Below W.heap.size W w5 from ((Below.refl W.heap.size W).drew).trans (hb5.mono (Nat.le_refl _))); have z7 := (unhide HR) _ (unhide HBD); have zn := (unhide HN) _ (unhide HBD); have hsz5 : W.heap.size ≤ w5.heap.size := (unhide HBD).size; have z7b := (unhide HR) (w5.alloc (Obj.cells #[.int .i64 a0, .int .i64 (x.1.fr.num : Nat), .int .i64 a2, .int .i64 a3, .int .i64 a4, .int .i64 a5] 63)) ((unhide HBD).alloc hsz5 _); clear hb5)
  | (refine step_append_lies _ rfl (.tmp 16) (.tmp 28) 27 rfl w0.heap.size 63 i0 _ 6 48 Tryz.underlying27 (unhide HI) (unhide HZ0) (unhide HZ1) (unhide HZ2) rfl (by omega) (.slice a n cp) n xs rfl (Pg.ow_below (unhide HROW) ((unhide HBD).alloc (by omega) _)) _ 1 1 [.int .i64 a0, .int .i64 (x.1.fr.num : Nat), .int .i64 a2, .int .i64 a3, .int .i64 a4, .int .i64 a5] rfl rfl (World.news_of_block (heap_alloc_new _ _)) (by simp [Value.oneCell']) (by omega) (by unfold maxLen; omega) (by omega) (by simp; omega) _ rfl ?_; intro gA cA w6 hoA hgA hatA hltA; have HGA := hide hgA; have HOA := hide hoA; have HAT := hide hatA; have hbb := (hgA.block bm (by simp; omega) (fun e => ((unhide HEV) bm e.symm).2 rfl)).trans (((unhide HBD).alloc (by omega) _).block bm (by omega)); have z4 := (Xr.cell_kept hbb 8).trans k7; have z5 := (Xr.frz_kept hbb 8).trans ((unhide HZ) _ (Below.refl _ _)); clear hatA hltA hoA hgA hbb))
 all_goals
  go_wp2_with fail
  go_end0
  exact ⟨rfl, _, _, (unhide HAP) _ _ ((unhide HBD).alloc (by omega) _) (unhide HGA) _ _ (unhide HOA) (unhide HAT)⟩
theorem rEnd_any (W : World) (h : Rm.J w0 W tg bm c t fuel s lo (x :: r) rf ev) (hr : r.length ≤ 1000) (hl : s.evs.length ≤ 1000000) (he : s.ended = false) (a how : Int) :
  Calls Tryz.prog 42 #[.pointer (some ⟨bm, 0, none⟩), .int .i64 a, .int .i64 how] W fun e W' => e = .returned (.tuple #[]) ∧ ∃ tg' ev', Rm.J w0 W' tg' bm c t fuel (Xr.fin s x.1.fr a how) lo (x :: r) rf ev' := by
 have HT := hide (rTell_any W h hr hl 7 a 0 0 how)
 have HF := hide (show Xr.fin s x.1.fr a how = { s with evs := s.evs ++ [⟨7, x.1.fr.num, a, 0, 0, how⟩], ended := true } by unfold Xr.fin; rw [Vd.tell_evs he])
 clear h
 go_enter Tryz.func42, Tryz.ntmps42
 go_wp2_with fail
 refine (unhide HT).mono ?_
 rintro e1 w1 ⟨rfl, tg1, ev1, hj, _⟩
 have h9 := hj.box.at_ 9 _ rfl
 have hz := hj.box.fz 9
 have HJ := hide (hj.set 9 (.bool true) (t' := t) (s' := { s with evs := s.evs ++ [⟨7, x.1.fr.num, a, 0, 0, how⟩], ended := true }) (lo' := lo) rfl hj.hf hj.inp rfl).1
 clear hj
 go_wp2_with fail
 go_end0
 exact ⟨rfl, tg1, ev1, by rw [unhide HF]; exact unhide HJ⟩
end
end Go.Proofs.YtpfogjplnodacaaGreat
namespace Go.Proofs.YtpfogjplnodacaaGreat
open Go.RowKit Go.Maps
set_option linter.unusedVariables false
theorem Rm.Fr.pvForm {w0 W : World} {tg : Nat → Nat} {d : Nat} {x : Rm.X} (h : Rm.Fr w0 W tg d x) : ∃ a cp, x.2.pv = .slice a x.1.pile.length cp ∧ x.1.pile.length ≤ cp ∧ cp ≤ maxLen ∧ (0 < x.1.pile.length → ∃ g, a = some ⟨g, 0, none⟩) := by
 rcases h.pr.2 with ⟨h1, h2⟩ | ⟨g, cap, cur, hv, h1, h2, h3, h4, _⟩
 · exact ⟨none, 0, by rw [h2]; exact h1, by omega, by unfold maxLen; omega, fun e => by omega⟩
 · exact ⟨_, _, hv, h3, h4, fun _ => ⟨g, rfl⟩⟩
def Rm.pp (f : Vd.F) : Vd.F := { f with pile := f.pile.tail }
def Rm.pu (f : Vd.F) (n : Int) : Vd.F := if f.pile.length < 64 then { f with pile := n :: f.pile } else f
def Rm.has (sz : List Int) (v : Int) (array : Bool) : Bool := if array then Vd.arr sz v else Vd.plain sz v
theorem Rm.has_is {sz : List Int} {v : Nat} {z : Int} (hz : sz[v]? = some z) (array : Bool) : Rm.has sz (v : Nat) array = if array then !decide (z = 0) else decide (z = 0) := by
 have hl := (List.getElem?_eq_some_iff.1 hz).1
 unfold Rm.has Vd.arr Vd.plain
 rw [Int.toNat_natCast, hz, decide_eq_true hl]
 have e : (some z == some (0 : Int)) = decide (z = 0) := by
  by_cases h : z = 0
  · subst h; rfl
  · simp [h]
 rw [e, Bool.true_and]
theorem Rm.has_no {sz : List Int} {v : Nat} (hz : sz[v]? = none) (array : Bool) : Rm.has sz (v : Nat) array = false := by
 have hl := List.getElem?_eq_none_iff.1 hz
 unfold Rm.has Vd.arr Vd.plain
 rw [Int.toNat_natCast, hz, decide_eq_false (by omega)]
 cases array <;> rfl
section
variable {w0 : World} {tg : Nat → Nat} {bm : Nat} {c : Vm.Cx} {t : Pg.Sl} {fuel : Nat} {s : Xr.S} {lo : Bool} {x : Rm.X} {r : List Rm.X} {rf ev : Value}
theorem rPop_any (W : World) (h : Rm.J w0 W tg bm c t fuel s lo (x :: r) rf ev) (hr : r.length ≤ 1000) (hl : x.1.pile.length ≤ 1000) :
  Calls Tryz.prog 46 #[.pointer (some ⟨bm, 0, none⟩)] W fun e W' => e = .returned (.int .i64 (x.1.pile.headD 0)) ∧ ∃ z', Rm.J w0 W' tg bm c t fuel s (lo || x.1.pile.isEmpty) ((Rm.pp x.1, z') :: r) rf ev ∧ Vm.K Rm.C tg tg W W' := by
 obtain ⟨g, cf, rfl⟩ := h.rfForm
 have HT := hide (rTop_any bm g r.length cf W (h.box.at_ 7 _ rfl) hr)
 have HJ := hide (fun (V : World) (hV : Below W.heap.size W V) => h.below hV)
 have HK := hide (fun (V : World) (hV : Below W.heap.size W V) => (Vm.K.below hV : Vm.K Rm.C tg tg W V))
 obtain ⟨f, z⟩ := x
 cases hp : f.pile with
 | nil =>
  obtain ⟨a, cp, hpv, _, _, _⟩ := h.frs.1.pvForm
  dsimp only at hpv
  rw [hp] at hpv
  have HP := hide (show Rm.pp f = f by unfold Rm.pp; rw [hp]; cases f; dsimp only at hp; subst hp; rfl)
  clear h hl
  go_enter Tryz.func46, Tryz.ntmps46
  go_wp2_with fail
  refine (unhide HT).mono ?_
  rintro e1 w1 ⟨rfl, hb1⟩
  have hj := (unhide HJ) w1 hb1
  have c4 : w1.cell? ⟨g, r.length * 6 + 4, none⟩ = some (.slice a 0 cp) := (hj.top 4 _ rfl).trans (congrArg some hpv)
  have hz := hj.box.fz 10
  have h10 := hj.box.at_ 10 _ rfl
  have HJ2 := hide (hj.set 10 (.bool true) (t' := t) (s' := s) (lo' := true) rfl hj.hf hj.inp rfl)
  have HB1 := hide hb1
  clear hj hb1 hpv
  go_wp2_with fail
  go_ret
  refine ⟨rfl, z, ?_, ((unhide HK) _ (unhide HB1)).trans (unhide HJ2).2⟩
  have h1 := (unhide HJ2).1
  rw [unhide HP]
  simpa using h1
 | cons n q =>
  obtain ⟨a, cp, hpv, hcp, hcm, hga⟩ := h.frs.1.pvForm
  dsimp only at hpv hcp hga hl
  rw [hp, List.length_cons] at hpv hcp hga hl
  obtain ⟨gp, rfl⟩ := hga (by omega)
  have hrow := h.frs.1.pr
  dsimp only at hrow
  rw [hp, hpv, List.length_cons] at hrow
  have hpt : tg gp = 11 + 2 * r.length := h.frs.1.tp gp (by dsimp only; rw [hpv]; rfl)
  have hgt : tg g = 2 := h.trf g rfl
  have hgp : gp ≠ g := by rintro rfl; omega
  have hnm : W.cell? ⟨gp, q.length, none⟩ = some (.int .i64 n) := by
   rw [hrow.cellAt q.length (by omega), List.reverse_cons, List.map_append, List.getElem?_append_right (by simp)]
   simp
  have hcut := Vm.row_cut (ys := q.reverse.map (Value.int .i64)) hrow ⟨[.int .i64 n], by rw [List.reverse_cons, List.map_append]; rfl⟩
  rw [List.length_map, List.length_reverse] at hcut
  have HS := hide (fun (V : World) (hV : Below W.heap.size W V) => ((unhide HJ) V hV).setPile (tg' := tg) (.slice (some ⟨gp, 0, none⟩) q.length cp) q V Vm.K.refl (Pg.ow_below hcut hV) (fun b hb => by cases hb; exact hpt) (fun b hb => by cases hb; exact hgp))
  have HPP := hide (show Rm.pp f = { f with pile := q } by unfold Rm.pp; rw [hp]; rfl)
  have hgpl : gp < W.heap.size := World.block_lt_of_cell? W _ hnm
  have hcm2 : (cp : Int) ≤ 140737488355328 * 65536 := by unfold maxLen at hcm; omega
  clear h hrow hcut hga hpt hgt
  generalize q.length = k at *
  have hw1 : IntKind.i64.wrap (((k + 1 : Nat) : Int) - 1) = (k : Int) := by rw [IntKind.wrap_i64]; omega
  have hw2 : IntKind.i64.wrap ((k : Int) + 1 - 1) = (k : Int) := by rw [IntKind.wrap_i64]; omega
  have g0 : (0 : Int) ≤ (k : Int) := by omega
  have g1 : (k : Int) < ((k + 1 : Nat) : Int) := by omega
  have g2 : (k : Int) ≤ (cp : Int) := by omega
  have g3 : (k : Int) < (k : Int) + 1 := by omega
  have g4 : (((k + 1 : Nat) : Int) == 0) = false := by rw [beq_eq_false_iff_ne]; omega
  have g5 : ¬ ((k : Int) + 1 = 0) := by omega
  have g6 : ((k : Int) + 1) ≤ (cp : Int) := by omega
  have g7 : (k : Int) ≤ (k : Int) + 1 := by omega
  go_enter Tryz.func46, Tryz.ntmps46
  go_wp2_with fail
  refine (unhide HT).mono ?_
  rintro e1 w1 ⟨rfl, hb1⟩
  have hj := (unhide HJ) w1 hb1
  have c4 : w1.cell? ⟨g, r.length * 6 + 4, none⟩ = some (.slice (some ⟨gp, 0, none⟩) (k + 1) cp) := (hj.top 4 _ rfl).trans (congrArg some hpv)
  have z4 := hj.topFz (r.length * 6 + 4)
  have n1 : w1.cell? ⟨gp, k, none⟩ = some (.int .i64 n) := (hb1.cell (p := ⟨gp, k, none⟩) hgpl).trans hnm
  have HS2 := hide ((unhide HS) w1 hb1)
  have HB1 := hide hb1
  clear hj hb1 hpv hnm HS HJ
  go_wp2_with fail
  go_ret
  refine ⟨rfl, { z with pv := .slice (some ⟨gp, 0, none⟩) k cp }, ?_, ((unhide HK) _ (unhide HB1)).trans (unhide HS2).2⟩
  have h1 := (unhide HS2).1
  rw [unhide HPP]
  simpa using h1
theorem rPush_any (W : World) (h : Rm.J w0 W tg bm c t fuel s lo (x :: r) rf ev) (hr : r.length ≤ 1000) (n : Int) :
  Calls Tryz.prog 44 #[.pointer (some ⟨bm, 0, none⟩), .int .i64 n] W fun e W' => e = .returned (.tuple #[]) ∧ ∃ tg' z', Rm.J w0 W' tg' bm c t fuel s (lo || !decide (x.1.pile.length < 64)) ((Rm.pu x.1 n, z') :: r) rf ev ∧ Vm.K Rm.C tg tg' W W' := by
 obtain ⟨g, cf, rfl⟩ := h.rfForm
 have HT := hide (rTop_any bm g r.length cf W (h.box.at_ 7 _ rfl) hr)
 have HJ := hide (fun (V : World) (hV : Below W.heap.size W V) => h.below hV)
 have HK := hide (fun (V : World) (hV : Below W.heap.size W V) => (Vm.K.below hV : Vm.K Rm.C tg tg W V))
 obtain ⟨f, z⟩ := x
 obtain ⟨a, cp, hpv, hcp, hcm, _⟩ := h.frs.1.pvForm
 dsimp only at hpv hcp
 by_cases hlt : f.pile.length < 64
 · have HP := hide (show Rm.pu f n = { f with pile := n :: f.pile } by unfold Rm.pu; rw [if_pos hlt])
   obtain ⟨i0, hi0, hz0, hz1', hz2⟩ := info_of Tryz.infoI3
   have HI := hide hi0
   have HZ0 := hide hz0
   have HZ1 := hide hz1'
   have HZ2 := hide hz2
   have hbl : w0.heap.size ≤ W.heap.size := h.bel.size
   have hgt : tg g = 2 := h.trf g rfl
   have hgl := (h.frr.lt g rfl).2
   have htp : ∀ b, (Value.slice a f.pile.length cp).ownBlock = some b → tg b = 11 + 2 * r.length := fun b hb => h.frs.1.tp b (by dsimp only; rw [hpv]; exact hb)
   have HROW := hide (show W.ownsRow w0.heap.size 3 1 (.slice a f.pile.length cp) f.pile.length (f.pile.reverse.map (Value.int .i64)) by rw [← hpv]; exact h.frs.1.pr)
   have HNE := hide (show ∀ b, (Value.slice a f.pile.length cp).ownBlock = some b → b ≠ g from fun b hb => by rintro rfl; have := htp _ hb; omega)
   have HS := hide (fun (w1 w6 : World) (hV : Below W.heap.size W w1) (hg : w1.grownBy w6 (Value.slice a f.pile.length cp).ownBlock) (gA cA : Nat) (ho : w6.ownsRow w0.heap.size 3 1 (.slice (some ⟨gA, 0, none⟩) (f.pile.length + 1) cA) (f.pile.length + 1) (f.pile.reverse.map (Value.int .i64) ++ [.int .i64 n])) (hat : (Value.slice a f.pile.length cp).ownBlock = some gA ∨ gA = w1.heap.size) => h.setPile (tg' := fun q => if q = gA then 11 + 2 * r.length else tg q) (.slice (some ⟨gA, 0, none⟩) (f.pile.length + 1) cA) (n :: f.pile) w6 (((Vm.K.below hV).grown hg (fun q hq _ => htp q hq)).re (Vm.retag htp hV.size hat)) (by rw [List.reverse_cons, List.map_append, List.length_cons]; exact ho) (fun b hb => by cases hb; exact if_pos rfl) (fun b hb => by
    cases hb
    rcases hat with e | e
    · intro e0; have e1 : gA = g := e0; have h5 := htp _ e; rw [e1] at h5; omega
    · intro e0; have e1 : gA = g := e0; have := hV.size; omega))
   have hlt' : ¬ (64 : Int) ≤ (f.pile.length : Int) := by omega
   clear h hi0 hz0 hz1' hz2 htp
   generalize f.pile.reverse.map (Value.int .i64) = xs at *
   generalize hm : f.pile.length = m at *
   clear hm
   go_enter Tryz.func44, Tryz.ntmps44
   go_wp2_with fail
   refine (unhide HT).mono ?_
   rintro e1 w1 ⟨rfl, hb1⟩
   have hj := (unhide HJ) w1 hb1
   have c4 : w1.cell? ⟨g, r.length * 6 + 4, none⟩ = some (.slice a m cp) := (hj.top 4 _ rfl).trans (congrArg some hpv)
   have z4 := hj.topFz (r.length * 6 + 4)
   have HB1 := hide hb1
   have HBK := hide (heap_alloc_new w1 (Obj.cells #[.int .i64 n] 3))
   have HBD := hide (show Below w1.heap.size w1 (w1.alloc (Obj.cells #[.int .i64 n] 3)) from (Below.refl _ _).alloc (Nat.le_refl _) _)
   have hs1 := hb1.size
   have HB2 := hide (hb1.trans ((unhide HBD).mono hs1))
   clear hj hb1 HJ
   go_wp2_with (at_builtin; refine wpList_append_lies _ (by rfl) _ _ _ (by rfl) w0.heap.size 3 i0 _ 1 8 Tryz.underlying23 (unhide HI) (unhide HZ0) (unhide HZ1) (unhide HZ2) rfl (by omega) (.slice a m cp) m xs (by rfl) (Pg.ow_below (unhide HROW) (unhide HB2)) ⟨w1.heap.size, 0, none⟩ 1 1 [.int .i64 n] (by rfl) (by rfl) (World.news_of_block (unhide HBK)) (by simp [Value.oneCell']) (by omega) (by unfold maxLen; omega) (by omega) (by simp; omega) (w1.heap.size + 1) (by simp) ?_; intro gA cA w6 hoA hgA hatA hltA; have HOA := hide hoA; have HGA := hide hgA; have HAT := hide (show (Value.slice a m cp).ownBlock = some gA ∨ gA = (w1.alloc (Obj.cells #[.int .i64 n] 3)).heap.size from hatA.imp id (fun e => by rw [e]; simp)); have hbb := (hgA.block g (by simp; omega) (fun e => (unhide HNE) _ e.symm rfl)).trans ((unhide HBD).block g (by omega)); have y4 := (Xr.cell_kept hbb (r.length * 6 + 4)).trans c4; have y5 := (Xr.frz_kept hbb (r.length * 6 + 4)).trans z4; clear hatA hltA hoA hgA hbb)
   go_end0
   have hA := (unhide HS) _ _ (unhide HB2) (unhide HGA) _ _ (unhide HOA) (unhide HAT)
   refine ⟨rfl, _, { z with pv := .slice (some ⟨gA, 0, none⟩) (m + 1) cA }, ?_, hA.2⟩
   have h1 := hA.1
   rw [unhide HP, decide_eq_true hlt]
   simpa using h1
 · have HP := hide (show Rm.pu f n = f by unfold Rm.pu; rw [if_neg hlt])
   have hge : (64 : Int) ≤ (f.pile.length : Int) := by omega
   clear h
   generalize f.pile.length = m at *
   go_enter Tryz.func44, Tryz.ntmps44
   go_wp2_with fail
   refine (unhide HT).mono ?_
   rintro e1 w1 ⟨rfl, hb1⟩
   have hj := (unhide HJ) w1 hb1
   have c4 : w1.cell? ⟨g, r.length * 6 + 4, none⟩ = some (.slice a m cp) := (hj.top 4 _ rfl).trans (congrArg some hpv)
   have hz := hj.box.fz 10
   have h10 := hj.box.at_ 10 _ rfl
   have HJ2 := hide (hj.set 10 (.bool true) (t' := t) (s' := s) (lo' := true) rfl hj.hf hj.inp rfl)
   have HB1 := hide hb1
   clear hj hb1 HJ
   go_wp2_with fail
   exact bodyPost_ret (results_none rfl _ _ _) rfl ⟨rfl, tg, z, by
    have h1 := (unhide HJ2).1
    rw [unhide HP, decide_eq_false hlt]
    simpa using h1, ((unhide HK) _ (unhide HB1)).trans (unhide HJ2).2⟩
theorem rHas_any {li : List Kd.I} {fs : List Int} {ss : List (List Int)} (hco : Kd.RCo w0 c.si c.sf c.sz li fs ss) (W : World) (h : Rm.J w0 W tg bm c t fuel s lo (x :: r) rf ev) (hr : r.length ≤ 1000) (hfn : x.1.fn < ss.length) (h0 : ∀ z ∈ ss[x.1.fn]?.getD [], 0 ≤ z) (v : Nat) (array : Bool) :
  Calls Tryz.prog 45 #[.pointer (some ⟨bm, 0, none⟩), .int .i64 (v : Nat), .bool array] W fun e W' => e = .returned (.bool (Rm.has (ss[x.1.fn]?.getD []) (v : Nat) array)) ∧ Rm.J w0 W' tg bm c t fuel s (lo || !Rm.has (ss[x.1.fn]?.getD []) (v : Nat) array) (x :: r) rf ev ∧ Vm.K Rm.C tg tg W W' := by
 obtain ⟨g, cf, rfl⟩ := h.rfForm
 have HT := hide (fun (V : World) (hV : Below W.heap.size W V) => rTop_any bm g r.length cf V ((h.below hV).box.at_ 7 _ rfl) hr)
 have HJ := hide (fun (V : World) (hV : Below W.heap.size W V) => h.below hV)
 have HK := hide (fun (V : World) (hV : Below W.heap.size W V) => (Vm.K.below hV : Vm.K Rm.C tg tg W V))
 obtain ⟨f, z⟩ := x
 dsimp only at hfn h0 ⊢
 obtain ⟨sz, hsz⟩ : ∃ sz, ss[f.fn]? = some sz := ⟨_, List.getElem?_eq_getElem hfn⟩
 obtain ⟨b, o, st, had, hb, hc, hrn⟩ := hco.szs.at_ f.fn sz hsz
 rw [hsz] at h0 ⊢
 dsimp only [Option.getD_some] at h0 ⊢
 have hbs := h.bel.size
 have hzl : c.sz.len = ss.length := hco.szs.len
 have HC := hide (fun (V : World) (hV : Below W.heap.size W V) => show V.cell? ⟨bm, 2, none⟩ = some (.slice (some ⟨b, o, none⟩) ss.length c.sz.cap) ∧ V.cell? ⟨g, r.length * 6 + 1, none⟩ = some (.int .i64 (f.fn : Nat)) ∧ V.cell? ⟨b, o + f.fn, none⟩ = some (.slice st.ad st.len st.cap) from by
  have hj := h.below hV
  refine ⟨?_, hj.top 1 _ rfl, (hj.bel.cell (p := ⟨b, o + f.fn, none⟩) hb).trans hc⟩
  rw [← had, ← hzl]
  exact hj.box.at_ 2 _ rfl)
 have g0 : (0 : Int) ≤ (f.fn : Int) := by omega
 have g1 : (f.fn : Int) < (ss.length : Int) := by omega
 have hbel : Below w0.heap.size w0 W := h.bel
 have hss2 := hco.szs.few
 clear h hzl hc
 generalize ss.length = sl at *
 go_enter Tryz.func45, Tryz.ntmps45
 have HC0 := hide ((unhide HC) W.drew (Below.refl _ _).drew)
 go_upto_region 1 with fail
 go_cut [7] (fun q V => q = .slice st.ad st.len st.cap ∧ Below W.heap.size W V)
 case first =>
  go_region_held3 (fun V => V.cell? ⟨bm, 2, none⟩ = some (.slice (some ⟨b, o, none⟩) sl c.sz.cap) ∧ V.cell? ⟨g, r.length * 6 + 1, none⟩ = some (.int .i64 (f.fn : Nat)) ∧ V.cell? ⟨b, o + f.fn, none⟩ = some (.slice st.ad st.len st.cap))
   (first | assumption | exact unhide HC0 | exact (unhide HC) _ (unhide HB3))
   (first | (go_at_call 41; refine ((unhide HT) _ ?_).mono ?_; exact (Below.refl _ _).drew; rintro r3 w3 ⟨rfl, hb3⟩; have HB3 := hide ((Below.refl W.heap.size W).drew.trans (hb3.mono (Nat.le_refl _))); clear hb3))
  all_goals
   go_wp2_with fail
   go_meet
   case rel => exact ⟨rfl, unhide HB3⟩
 case rest =>
  rename World => W4
  obtain ⟨rfl, hb4⟩ := hcut
  have hj := (unhide HJ) _ hb4
  have hz10 := hj.box.fz 10
  have h10 := hj.box.at_ 10 _ rfl
  have HJ1 := hide hj
  have HJ2 := hide (hj.set 10 (.bool true) (t' := t) (s' := s) (lo' := true) rfl hj.hf hj.inp rfl)
  have HK4 := hide ((unhide HK) _ hb4)
  have hsl : st.len = sz.length := hrn.len
  have hbel4 := hj.bel
  clear hj hb4 HJ HK HC HC0 HT hbel hb hbs
  cases hzz : sz[v]? with
  | none =>
   have hge := List.getElem?_eq_none_iff.1 hzz
   have q1 : (st.len : Int) ≤ (v : Int) := by omega
   have HR := hide (Rm.has_no hzz array)
   clear hzz hbel4 hrn
   go_wp2_with fail
   go_ret
   refine ⟨by rw [unhide HR]; rfl, ?_, (unhide HK4).trans (unhide HJ2).2⟩
   have h1 := (unhide HJ2).1
   rw [unhide HR]
   simpa using h1
  | some y =>
   have hvl := (List.getElem?_eq_some_iff.1 hzz).1
   obtain ⟨b2, o2, had2, hb2, hc2⟩ := hrn.at_ v y hzz
   have hy0 := h0 y (List.mem_of_getElem? hzz)
   have p0 := (hbel4.cell (p := ⟨b2, o2 + v, none⟩) hb2).trans hc2
   have q1 : ¬ (st.len : Int) ≤ (v : Int) := by omega
   have q2 : (v : Int) < (st.len : Int) := by omega
   have q0 : (0 : Int) ≤ (v : Int) := by omega
   have HR := hide (Rm.has_is hzz array)
   have hnc : ¬ (b2 = bm) := by
    intro e
    have h1 := (unhide HJ1).hbm
    omega
   clear hzz hbel4 hrn hc2 h0 hvl hsl
   rw [had2]
   by_cases hy : y = 0
   · subst hy
     cases array with
     | true =>
      go_wp2_with fail
      go_ret
      refine ⟨by rw [unhide HR]; rfl, ?_, (unhide HK4).trans (unhide HJ2).2⟩
      have h1 := (unhide HJ2).1
      rw [unhide HR]
      simpa using h1
     | false =>
      go_wp2_with fail
      go_ret
      refine ⟨by rw [unhide HR]; rfl, ?_, unhide HK4⟩
      have h1 := unhide HJ1
      rw [unhide HR]
      simpa using h1
   · have q3 : (y == 0) = false := by simpa using hy
     have q4 : (0 : Int) < y := by omega
     cases array with
     | true =>
      go_wp2_with fail
      go_ret
      refine ⟨by rw [unhide HR]; simp [hy], ?_, unhide HK4⟩
      have h1 := unhide HJ1
      rw [unhide HR]
      simpa [hy] using h1
     | false =>
      go_wp2_with fail
      go_ret
      refine ⟨by rw [unhide HR]; simp [hy], ?_, (unhide HK4).trans (unhide HJ2).2⟩
      have h1 := (unhide HJ2).1
      rw [unhide HR]
      simpa [hy] using h1
theorem rWrite_any (W : World) (h : Rm.J w0 W tg bm c t fuel s lo (x :: r) rf ev) (hr : r.length ≤ 1000) (hl : s.evs.length ≤ 1000000) (a : Int) (v i : Nat) (l : List Int) (hv : x.1.fr.vs[v]? = some l) (hi : i < l.length) (z : Int) :
  Calls Tryz.prog 48 #[.pointer (some ⟨bm, 0, none⟩), .int .i64 a, .int .i64 (v : Nat), .int .i64 (i : Nat), .int .i64 z] W fun e W' => e = .returned (.tuple #[]) ∧
   ∃ tg' ev', Rm.J w0 W' tg' bm c t fuel { s with evs := s.evs ++ [⟨2, x.1.fr.num, a, (v : Nat), (i : Nat), z⟩] } lo (({ x.1 with fr := { x.1.fr with vs := Xr.upd x.1.fr.vs v i z } }, x.2) :: r) rf ev' ∧ Vm.K Rm.C tg tg' W W' := by
 obtain ⟨g, cf, rfl⟩ := h.rfForm
 have HT := hide (rTop_any bm g r.length cf W (h.box.at_ 7 _ rfl) hr)
 have hzf := h.frs.1.zf
 have hvl : v < x.1.fr.vs.length := (List.getElem?_eq_some_iff.1 hv).1
 have hvb : v < x.2.vb.length := by rw [hzf.len]; exact hvl
 obtain ⟨gv, cv, q1, q2, q3, q4, q5, q6⟩ := hzf.at_ v x.2.vb[v] l (List.getElem?_eq_getElem hvb) hv
 have HC := hide (show ∀ V, Below W.heap.size W V → V.cell? ⟨g, r.length * 6 + 5, none⟩ = some (.slice (some ⟨gv, 0, none⟩) x.1.fr.vs.length x.2.c) ∧ V.cell? ⟨gv, v, none⟩ = some (.slice (some ⟨x.2.vb[v], 0, none⟩) l.length cv) ∧ V.cell? ⟨x.2.vb[v], i, none⟩ = some (.int .i64 l[i]) ∧ V.frozen? ⟨x.2.vb[v], i, none⟩ = false from fun V hV => by
  have hJ := h.below hV
  refine ⟨?_, (hV.cell (p := ⟨gv, v, none⟩) (World.block_lt_of_cell? W _ q2)).trans q2, (hV.cell (p := ⟨x.2.vb[v], i, none⟩) (World.block_lt_of_cell? W _ (q5 i _ (List.getElem?_eq_getElem hi)))).trans (q5 i _ (List.getElem?_eq_getElem hi)), (hV.frozen (p := ⟨x.2.vb[v], i, none⟩) (World.block_lt_of_cell? W _ (q5 i _ (List.getElem?_eq_getElem hi)))).trans (q6 i)⟩
  have h3 := hJ.top 5 _ rfl
  rw [q1] at h3
  exact h3)
 have HS := hide (fun (V : World) (hV : Below W.heap.size W V) => rTell_any _ ((h.below hV).setVar hv (List.getElem?_eq_getElem hvb) hi z).1 hr hl 2 a (v : Nat) (i : Nat) z)
 have HK := hide (fun (V : World) (hV : Below W.heap.size W V) => (Vm.K.below hV : Vm.K Rm.C tg tg W V).trans ((h.below hV).setVar hv (List.getElem?_eq_getElem hvb) hi z).2)
 have hfew := hzf.few
 have v0 : (0 : Int) ≤ (v : Int) := by omega
 have v1 : (v : Int) < (x.1.fr.vs.length : Int) := by omega
 have i0 : (0 : Int) ≤ (i : Int) := by omega
 have i1 : (i : Int) < (l.length : Int) := by omega
 clear h hzf q1 q2 q3 q5 q6 hv hvl
 generalize hbd : x.2.vb[v] = b at *
 generalize l[i] = z0 at *
 generalize x.1.fr.vs.length = vl at *
 generalize l.length = ll at *
 generalize x.2.c = vc at *
 go_enter Tryz.func48, Tryz.ntmps48
 go_wp2_with (first
  | (refine (unhide HT).mono ?_; rintro e5 w5 ⟨rfl, hb5⟩; have HB5 := hide hb5; obtain ⟨z1, z2, z3, z4⟩ := (unhide HC) _ hb5; clear hb5)
  | (refine ((unhide HS) _ (unhide HB5)).mono ?_; rintro e6 w6 ⟨rfl, tg6, ev6, hJ6, hk6⟩; have HJ6 := hide hJ6; have HK6 := hide hk6; clear hJ6 hk6))
 go_end0
 exact ⟨rfl, tg6, ev6, unhide HJ6, ((unhide HK) _ (unhide HB5)).trans (unhide HK6)⟩
end
end Go.Proofs.YtpfogjplnodacaaGreat
namespace Go.Proofs.YtpfogjplnodacaaGreat
open Go.RowKit Go.Maps
set_option linter.unusedVariables false
structure Rm.Nv (W wr : World) (sz : List Int) (i : Nat) (rv : Value) (vb : List Nat) (svs : List Value) : Prop where
 bel : Below W.heap.size W wr
 vlen : vb.length = i
 row : wr.ownsRow W.heap.size 23 1 rv i svs
 at_ : ∀ (k b : Nat), vb[k]? = some b → ∃ z : Int, sz[k]? = some z ∧ svs[k]? = some (Value.slice (some ⟨b, 0, none⟩) (Xr.szN z) (Xr.szN z)) ∧ wr.heap[b]? = some (Obj.cells (madeCells #[.int .i64 0] (Xr.szN z)) 3)
 nd : vb.Nodup
 ge : ∀ b ∈ vb, W.heap.size ≤ b ∧ b < wr.heap.size
 rvn : ∀ q, rv.ownBlock = some q → q ∉ vb
theorem Rm.Nv.next {W wr W2 w6 : World} {sz : List Int} {i : Nat} {rv : Value} {vb : List Nat} {svs : List Value} (h : Rm.Nv W wr sz i rv vb svs) {z : Int} (hz : sz[i]? = some z) (hb : Below wr.heap.size wr W2) (hnew : W2.heap[wr.heap.size]? = some (Obj.cells (madeCells #[.int .i64 0] (Xr.szN z)) 3)) (hg : W2.grownBy w6 rv.ownBlock) (g c : Nat)
  (ho : w6.ownsRow W.heap.size 23 1 (.slice (some ⟨g, 0, none⟩) (i + 1) c) (i + 1) (svs ++ [.slice (some ⟨wr.heap.size, 0, none⟩) (Xr.szN z) (Xr.szN z)])) (hat : rv.ownBlock = some g ∨ g = W2.heap.size) :
  Rm.Nv W w6 sz (i + 1) (.slice (some ⟨g, 0, none⟩) (i + 1) c) (vb ++ [wr.heap.size]) (svs ++ [.slice (some ⟨wr.heap.size, 0, none⟩) (Xr.szN z) (Xr.szN z)]) := by
 have hz2 := hb.size
 have hl := h.bel.size
 have hnl : wr.heap.size < W2.heap.size := (Array.getElem?_eq_some_iff.1 hnew).1
 have hrl : ∀ q, rv.ownBlock = some q → W.heap.size ≤ q ∧ q < wr.heap.size := fun q hq => h.row.lt q hq
 have hsvl : svs.length = i := by have := h.row.1; omega
 have hvo : ∀ b ∈ vb, w6.heap[b]? = wr.heap[b]? := fun b hbm => by
  have h1 := h.ge b hbm
  exact (hg.block b (by omega) (fun e => h.rvn b e.symm hbm)).trans (hb.block b h1.2)
 have hnw : w6.heap[wr.heap.size]? = some (Obj.cells (madeCells #[.int .i64 0] (Xr.szN z)) 3) := (hg.block _ hnl (fun e => by have := (hrl _ e.symm).2; omega)).trans hnew
 have hgs : w6.heap.size ≥ W2.heap.size := hg.size
 refine ⟨⟨hg.os.trans (hb.os.trans h.bel.os), hg.tape.trans (hb.tape.trans h.bel.tape), hg.output.trans (hb.output.trans h.bel.output), by omega, fun q hq => (hg.block q (by omega) (fun e => by have := (hrl _ e.symm).1; omega)).trans ((hb.block q (by omega)).trans (h.bel.block q hq))⟩, by rw [List.length_append, h.vlen]; rfl, ho, ?_, ?_, ?_, ?_⟩
 · intro k b hkb
   by_cases hk : k < i
   · rw [List.getElem?_append_left (by rw [h.vlen]; exact hk)] at hkb
     obtain ⟨y, y1, y2, y3⟩ := h.at_ k b hkb
     exact ⟨y, y1, by rw [List.getElem?_append_left (by omega)]; exact y2, (hvo b (List.mem_of_getElem? hkb)).trans y3⟩
   · have hke : k = i := by
      have := (List.getElem?_eq_some_iff.1 hkb).1
      rw [List.length_append, h.vlen] at this
      simp at this
      omega
     subst hke
     rw [List.getElem?_append_right (by rw [h.vlen]; exact Nat.le_refl _), h.vlen, Nat.sub_self] at hkb
     cases hkb
     exact ⟨z, hz, by rw [List.getElem?_append_right (by omega), hsvl, Nat.sub_self]; rfl, hnw⟩
 · rw [List.nodup_append]
   exact ⟨h.nd, by simp, fun a ha b hb' => by simp at hb'; subst hb'; have := (h.ge a ha).2; omega⟩
 · intro b hbm
   rcases List.mem_append.1 hbm with hbm | hbm
   · have := h.ge b hbm; omega
   · simp at hbm; subst hbm; omega
 · intro q hq hin
   cases hq
   have hin2 : g ∈ vb ++ [wr.heap.size] := hin
   rcases List.mem_append.1 hin2 with hin2 | hin2
   · rcases hat with e | e
     · exact h.rvn g e hin2
     · have := (h.ge g hin2).2; omega
   · simp at hin2
     rcases hat with e | e
     · have := (hrl g e).2; omega
     · omega
theorem Rm.Nv.done {W wr : World} {sz : List Int} {i : Nat} {ra : Option Addr} {rc : Nat} {vb : List Nat} {svs : List Value} (h : Rm.Nv W wr sz i (.slice ra i rc) vb svs) (hi : i = sz.length) (hi2 : i ≤ 2000000) (hs : ∀ z ∈ sz, z ≤ 100) :
  ∃ gv, ra = gv.map (fun g => ⟨g, 0, none⟩) ∧ Rm.Zf wr W.heap.size gv vb rc (Rm.zeros sz) := by
 have hvl : (Rm.zeros sz).length = i := by unfold Rm.zeros; rw [List.length_map, hi]
 have hat : ∀ (k b : Nat) (l : List Int), vb[k]? = some b → (Rm.zeros sz)[k]? = some l → ∃ z, sz[k]? = some z ∧ l = List.replicate (Xr.szN z) 0 ∧ svs[k]? = some (Value.slice (some ⟨b, 0, none⟩) l.length (Xr.szN z)) ∧ wr.heap[b]? = some (Obj.cells (madeCells #[.int .i64 0] (Xr.szN z)) 3) := by
  intro k b l hb hl'
  obtain ⟨z, z1, z2, z3⟩ := h.at_ k b hb
  have hl2 : (sz.map fun n => List.replicate (max n 1).toNat (0 : Int))[k]? = some l := hl'
  rw [List.getElem?_map, z1] at hl2
  have hl3 : l = List.replicate (Xr.szN z) 0 := by simpa [Xr.szN] using hl2.symm
  exact ⟨z, z1, hl3, by rw [hl3, List.length_replicate]; exact z2, z3⟩
 have hcell : ∀ (b : Nat) (n : Nat), wr.heap[b]? = some (Obj.cells (madeCells #[.int .i64 0] n) 3) → (∀ j y, (List.replicate n (0 : Int))[j]? = some y → wr.cell? ⟨b, j, none⟩ = some (.int .i64 y)) ∧ ∀ j, wr.frozen? ⟨b, j, none⟩ = false := by
  intro b n hb
  constructor
  · intro j y hj
    rw [cell_of_row wr b j _ 3 (0, 0) hb, ← Array.getElem?_toList, toList_madeCells_one]
    obtain ⟨hlt, hy⟩ := List.getElem?_eq_some_iff.1 hj
    rw [List.getElem_replicate] at hy
    rw [List.length_replicate] at hlt
    rw [List.getElem?_replicate, if_pos hlt, ← hy]
  · intro j
    simp [World.frozen?, hb]
 rcases h.row.2 with ⟨hrv, hi0⟩ | ⟨g, cap, cur, hrv, hg1, hg2, hg3, hg4, hg5, hg6⟩
 · have hvb : vb = [] := List.eq_nil_of_length_eq_zero (by rw [h.vlen]; exact hi0)
   subst hvb
   cases hrv
   refine ⟨none, rfl, ⟨fun q hq => by simp at hq, by simp, by rw [hvl]; omega, by rw [hvl, h.vlen], by rw [hvl]; omega, fun k b l hb => by simp at hb⟩⟩
 · cases hrv
   have hown := h.row
   have hgl := hown.lt g rfl
   refine ⟨some g, rfl, ⟨?_, ?_, by rw [hvl]; exact hg3, by rw [hvl, h.vlen], by rw [hvl]; omega, ?_⟩⟩
   · intro q hq
     simp at hq
     rcases hq with hq | hq
     · omega
     · have := h.ge q hq; omega
   · simp
     exact ⟨fun e => h.rvn g rfl e, h.nd⟩
   · intro k b l hb hl'
     obtain ⟨z, z1, z2, z3, z4⟩ := hat k b l hb hl'
     obtain ⟨q1, q2⟩ := hcell b (Xr.szN z) z4
     have hcl := hown.cells (g := g) rfl k _ z3
     rw [Xr.add_at] at hcl
     have hzl := hs z (List.mem_of_getElem? z1)
     have hll : l.length = Xr.szN z := by rw [z2, List.length_replicate]
     have hzn : Xr.szN z ≤ 100 := by unfold Xr.szN; omega
     exact ⟨g, Xr.szN z, rfl, by simpa using hcl, by omega, by omega, fun j y hj => q1 j y (by rw [← z2]; exact hj), q2⟩
theorem rZeroVars_any (ta : Option Addr) (tn tc : Nat) (sz : List Int) (W : World) (hr : Pg.RN W ⟨ta, tn, tc⟩ sz) (hlen : sz.length ≤ 2000000) (hs : ∀ z ∈ sz, 0 ≤ z ∧ z ≤ 100) :
  Calls Tryz.prog 21 #[.slice ta tn tc] W fun r W' => ∃ gv vb c, r = .returned (.slice (gv.map fun g => ⟨g, 0, none⟩) sz.length c) ∧ Rm.Zf W' W.heap.size gv vb c (Rm.zeros sz) ∧ Below W.heap.size W W' := by
 have htn : tn = sz.length := hr.len
 obtain ⟨i0, hi0, hz0, hz1', hz2⟩ := info_of Tryz.infoIs
 have HI := hide hi0
 have HZ0 := hide hz0
 have HZ1 := hide hz1'
 have HZ2 := hide hz2
 have HR := hide hr
 have HS := hide hs
 have HTN := hide htn
 have htl : tn ≤ 2000000 := by omega
 clear hi0 hz0 hz1' hz2 hr hs htn
 go_enter Tryz.func21, Tryz.ntmps21
 go_wp2_with fail
 go_loopw [3, 4] (fun ov iv wr => ∃ (i : Nat) (ra : Option Addr) (rc : Nat) (vb : List Nat) (svs : List Value), i ≤ tn ∧ iv = .int .i64 i ∧ ov = .slice ra i rc ∧ Rm.Nv W wr sz i (.slice ra i rc) vb svs) (fun _ iv _ => tn - (intOf iv).toNat)
 case atStart => exact ⟨0, none, 0, [], [], Nat.zero_le _, rfl, rfl, Below.refl _ _, rfl, ⟨rfl, .inl ⟨rfl, rfl⟩⟩, fun k b hb => by simp at hb, List.nodup_nil, fun b hb => by simp at hb, fun q hq => by cases hq⟩
 case round =>
  obtain ⟨i, ra, rc, vb, svs, hi, rfl, rfl, hnw⟩ := hrel
  by_cases hlt : i < tn
  · have hlt2 : i < sz.length := by have := unhide HTN; omega
    have hy := List.getElem?_eq_getElem hlt2
    obtain ⟨b, o, had, hb, hc⟩ := (unhide HR).at_ i _ hy
    have hzz := (unhide HS) _ (List.getElem_mem hlt2)
    have p0 := (hnw.bel.cell (p := ⟨b, o + i, none⟩) hb).trans hc
    have HROW := hide hnw.row
    have HNX := hide (fun (W2 w6 : World) (h1 : Below wr.heap.size wr W2) (h2 : W2.heap[wr.heap.size]? = some (Obj.cells (madeCells #[.int .i64 0] (Xr.szN sz[i])) 3)) (h3 : W2.grownBy w6 (Value.slice ra i rc).ownBlock) (g c : Nat) (h4 : w6.ownsRow W.heap.size 23 1 (.slice (some ⟨g, 0, none⟩) (i + 1) c) (i + 1) (svs ++ [.slice (some ⟨wr.heap.size, 0, none⟩) (Xr.szN sz[i]) (Xr.szN sz[i])])) (h5 : (Value.slice ra i rc).ownBlock = some g ∨ g = W2.heap.size) => hnw.next hy h1 h2 h3 g c h4 h5)
    have hsn : ((Xr.szN sz[i] : Nat) : Int) = max sz[i] 1 := by unfold Xr.szN; omega
    have hsb : Xr.szN sz[i] ≤ 100 := by unfold Xr.szN; omega
    have hbs := hnw.bel.size
    generalize Xr.szN sz[i] = n at *
    generalize sz[i] = z at *
    have hmk : ∀ (V : World) (y : Int), y = (n : Int) → (Instr.makeSlice 23 (.int .i64 y) (.int .i64 y)).run Tryz.prog V = .ok (.slice (some ⟨V.heap.size, 0, none⟩) n n) (V.alloc (.cells (madeCells #[.int .i64 0] n) 3)) := by
     intro V y hy
     rw [hy]
     exact run_make_row' (P := Tryz.prog) 23 3 (.int .i64 0) 8 Tryz.underlying23 Tryz.infoI3 rfl .i64 .i64 n (by omega) (by omega) V
    have had' : ta = some ⟨b, o, none⟩ := had
    subst had'
    clear had hc hy hnw
    have hi0' : (0 : Int) ≤ (i : Int) := by omega
    have hi1 : (i : Int) < (tn : Int) := by omega
    have HBD := hide (show Below wr.heap.size wr ((wr.alloc (Obj.cells (madeCells #[.int .i64 0] n) 3)).alloc (Obj.cells #[.slice (some ⟨wr.heap.size, 0, none⟩) n n] 23)) from (((Below.refl wr.heap.size wr).alloc (Nat.le_refl _) _).alloc (by simp) _))
    have HNW := hide (show ∀ j u, [Value.slice (some ⟨wr.heap.size, 0, none⟩) n n][j]? = some u → ((wr.alloc (Obj.cells (madeCells #[.int .i64 0] n) 3)).alloc (Obj.cells #[.slice (some ⟨wr.heap.size, 0, none⟩) n n] 23)).cell? ((⟨wr.heap.size + 1, 0, none⟩ : Addr).add j) = some u from by
     have h1 := heap_alloc_new (wr.alloc (Obj.cells (madeCells #[.int .i64 0] n) 3)) (Obj.cells #[.slice (some ⟨wr.heap.size, 0, none⟩) n n] 23)
     have h2 : (wr.alloc (Obj.cells (madeCells #[.int .i64 0] n) 3)).heap.size = wr.heap.size + 1 := by simp
     rw [h2] at h1
     exact World.news_of_block h1)
    have HM := hide (show ((wr.alloc (Obj.cells (madeCells #[.int .i64 0] n) 3)).alloc (Obj.cells #[.slice (some ⟨wr.heap.size, 0, none⟩) n n] 23)).heap[wr.heap.size]? = some (Obj.cells (madeCells #[.int .i64 0] n) 3) from by
     have h1 := heap_alloc_new wr (Obj.cells (madeCells #[.int .i64 0] n) 3)
     have h2 := ((Below.refl (wr.alloc (Obj.cells (madeCells #[.int .i64 0] n) 3)).heap.size (wr.alloc (Obj.cells (madeCells #[.int .i64 0] n) 3))).alloc (Nat.le_refl _) (Obj.cells #[.slice (some ⟨wr.heap.size, 0, none⟩) n n] 23)).block wr.heap.size (by simp)
     exact h2.trans h1)
    by_cases hz0 : z = 0
    · have hmk1 := fun V => hmk V 1 (by omega)
      subst hz0
      clear hsn hmk
      go_wp2_with (at_builtin; refine wpList_append_lies _ (by rfl) _ _ _ (by rfl) W.heap.size 23 i0 _ 1 24 Tryz.underlying24 (unhide HI) (unhide HZ0) (unhide HZ1) (unhide HZ2) rfl (by omega) (.slice ra i rc) i svs (by rfl) (Pg.ow_below (unhide HROW) (unhide HBD)) ⟨wr.heap.size + 1, 0, none⟩ 1 1 [.slice (some ⟨wr.heap.size, 0, none⟩) n n] (by rfl) (by rfl) (unhide HNW) (by simp [Value.oneCell']) (by omega) (by unfold maxLen; omega) (by omega) (by simp; omega) (wr.heap.size + 2) (by simp) ?_; intro gA cA w6 hoA hgA hatA hltA; have HOA := hide hoA; have HGA := hide hgA; have HAT := hide hatA; clear hoA hgA hatA hltA)
      exact ⟨⟨i + 1, _, _, _, _, by omega, by go_num, rfl, (unhide HNX) _ _ (unhide HBD) (unhide HM) (unhide HGA) _ _ (unhide HOA) (by have := unhide HAT; simpa using this)⟩, by simp [intOf]; omega⟩
    · have hmk1 := fun V => hmk V z (by omega)
      have bz : (z == 0) = false := by simpa using hz0
      clear hsn hmk hz0
      go_wp2_with (at_builtin; refine wpList_append_lies _ (by rfl) _ _ _ (by rfl) W.heap.size 23 i0 _ 1 24 Tryz.underlying24 (unhide HI) (unhide HZ0) (unhide HZ1) (unhide HZ2) rfl (by omega) (.slice ra i rc) i svs (by rfl) (Pg.ow_below (unhide HROW) (unhide HBD)) ⟨wr.heap.size + 1, 0, none⟩ 1 1 [.slice (some ⟨wr.heap.size, 0, none⟩) n n] (by rfl) (by rfl) (unhide HNW) (by simp [Value.oneCell']) (by omega) (by unfold maxLen; omega) (by omega) (by simp; omega) (wr.heap.size + 2) (by simp) ?_; intro gA cA w6 hoA hgA hatA hltA; have HOA := hide hoA; have HGA := hide hgA; have HAT := hide hatA; clear hoA hgA hatA hltA)
      exact ⟨⟨i + 1, _, _, _, _, by omega, by go_num, rfl, (unhide HNX) _ _ (unhide HBD) (unhide HM) (unhide HGA) _ _ (unhide HOA) (by have := unhide HAT; simpa using this)⟩, by simp [intOf]; omega⟩
  · have hie : i = tn := by omega
    subst hie
    obtain ⟨gv, rfl, hzf⟩ := hnw.done (unhide HTN) (by omega) (fun z hz => ((unhide HS) z hz).2)
    have HZF := hide hzf
    have HBB := hide hnw.bel
    have hi1 : ¬ (i : Int) < (i : Int) := by omega
    clear hnw hzf
    go_wp2_with fail
    go_ret
    exact ⟨gv, vb, rc, by rw [← unhide HTN]; rfl, unhide HZF, unhide HBB⟩
end Go.Proofs.YtpfogjplnodacaaGreat
