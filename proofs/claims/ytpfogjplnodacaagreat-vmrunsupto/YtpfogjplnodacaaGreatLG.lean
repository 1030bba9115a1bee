/-
  KRead, VMem, VTk. By the verifier.
-/
import Derived.Test.YtpfogjplnodacaaGreatLC
import Derived.Test.YtpfogjplnodacaaGreatLE
import Derived.Laws.OwnMore
import Derived.Maps.OwnSet
set_option maxRecDepth 100000
set_option maxHeartbeats 3200000
namespace Go.Proofs.YtpfogjplnodacaaGreat
open Go.RowKit
set_option linter.unusedVariables false
structure Kd.RI (w : World) (s : Pg.Sl) (l : List Kd.I) : Prop where
 len : s.len = l.length
 cap : s.len ≤ s.cap
 few : l.length ≤ 35184372088832
 at_ : ∀ (i : Nat) (x : Kd.I), l[i]? = some x → ∃ b o, s.ad = some ⟨b, o, none⟩ ∧ b < w.heap.size ∧ w.cell? ⟨b, o + i * 3, none⟩ = some (.int .i64 x.k) ∧ w.cell? ⟨b, o + i * 3 + 1, none⟩ = some (.int .i64 x.a) ∧ w.cell? ⟨b, o + i * 3 + 2, none⟩ = some (.int .i64 x.b)
theorem Kd.RI.later {w w' : World} {B : Nat} {s : Pg.Sl} {l : List Kd.I} (h : Kd.RI w s l) (hb : Below B w w') (hB : w.heap.size ≤ B) : Kd.RI w' s l :=
 ⟨h.len, h.cap, h.few, fun i x hx => by
  obtain ⟨b, o, h1, h2, h3, h4, h5⟩ := h.at_ i x hx
  have hc : ∀ j, w'.cell? ⟨b, j, none⟩ = w.cell? ⟨b, j, none⟩ := fun j => hb.cell (p := ⟨b, j, none⟩) (by show b < B; omega)
  exact ⟨b, o, h1, by have := hb.size; omega, (hc _).trans h3, (hc _).trans h4, (hc _).trans h5⟩⟩
structure Kd.RCo (w : World) (si sf sz : Pg.Sl) (l : List Kd.I) (fs : List Int) (ss : List (List Int)) : Prop where
 ins : Kd.RI w si l
 fst : Pg.RN w sf fs
 szs : Pg.RV w sz ss
theorem Kd.RCo.later {w w' : World} {B : Nat} {si sf sz : Pg.Sl} {l : List Kd.I} {fs : List Int} {ss : List (List Int)} (h : Kd.RCo w si sf sz l fs ss) (hb : Below B w w') (hB : w.heap.size ≤ B) : Kd.RCo w' si sf sz l fs ss := ⟨h.ins.later hb hB, h.fst.later hb hB, h.szs.later hb hB⟩
end Go.Proofs.YtpfogjplnodacaaGreat
namespace Go.Proofs.YtpfogjplnodacaaGreat
open Go.RowKit Go.Maps
set_option linter.unusedVariables false
structure Vm.Bx (W : World) (b : Nat) (xs : List Value) : Prop where
 lt : b < W.heap.size
 at_ : ∀ (i : Nat) (v : Value), xs[i]? = some v → W.cell? ⟨b, i, none⟩ = some v
 fz : ∀ i, W.frozen? ⟨b, i, none⟩ = false
theorem Vm.Bx.kept {W W' : World} {b : Nat} {xs : List Value} (h : Vm.Bx W b xs) (hz : W.heap.size ≤ W'.heap.size) (hk : W'.heap[b]? = W.heap[b]?) : Vm.Bx W' b xs :=
 ⟨Nat.lt_of_lt_of_le h.lt hz, fun i v hv => (Xr.cell_kept hk i).trans (h.at_ i v hv), fun i => (Xr.frz_kept hk i).trans (h.fz i)⟩
theorem Vm.Bx.set {W : World} {b : Nat} {xs : List Value} (h : Vm.Bx W b xs) (i : Nat) (v : Value) : Vm.Bx (W.setCell ⟨b, i, none⟩ v) b (xs.set i v) := by
 refine ⟨by rw [World.size_setCell]; exact h.lt, fun j u hj => ?_, fun j => by rw [World.frozen?_setCell]; exact h.fz j⟩
 rw [List.getElem?_set] at hj
 split at hj
 · rename_i e
   subst e
   split at hj
   · rename_i hlt
     cases hj
     exact World.cell?_setCell_same _ _ _ (h.at_ i _ (List.getElem?_eq_getElem hlt))
   · cases hj
 · rename_i hne
   rw [World.cell?_setCell_other _ _ _ _ (by intro hh; exact hne (congrArg Addr.off hh))]
   exact h.at_ j u hj
theorem Vm.Bx.new {W : World} {b : Nat} {xs : Array Value} {t : TypeId} (h : W.heap[b]? = some (.cells xs t (0, 0))) : Vm.Bx W b xs.toList :=
 ⟨(Array.getElem?_eq_some_iff.1 h).1, fun i v hv => by rw [cell_of_row W b i _ t (0, 0) h, ← Array.getElem?_toList]; exact hv, fun i => by simp [World.frozen?, h]⟩
structure Vm.K (C : Nat → Prop) (tg tg' : Nat → Nat) (W W' : World) : Prop where
 os : W'.os = W.os
 tape : W'.tape = W.tape
 output : W'.output = W.output
 size : W.heap.size ≤ W'.heap.size
 tgk : ∀ q, q < W.heap.size → tg' q = tg q
 blk : ∀ q, q < W.heap.size → ¬ C (tg q) → W'.heap[q]? = W.heap[q]?
section
variable {C D : Nat → Prop} {tg tg' tg'' : Nat → Nat} {W W' W2 w6 W'' : World}
theorem Vm.K.below (h : Below W.heap.size W W') : Vm.K C tg tg W W' := ⟨h.os, h.tape, h.output, h.size, fun _ _ => rfl, fun q hq _ => h.block q hq⟩
theorem Vm.K.refl : Vm.K C tg tg W W := Vm.K.below (Below.refl _ _)
theorem Vm.K.mono (h : Vm.K C tg tg' W W') (hcd : ∀ k, C k → D k) : Vm.K D tg tg' W W' := ⟨h.os, h.tape, h.output, h.size, h.tgk, fun q hq hc => h.blk q hq (fun e => hc (hcd _ e))⟩
theorem Vm.K.trans (h : Vm.K C tg tg' W W') (h2 : Vm.K C tg' tg'' W' W'') : Vm.K C tg tg'' W W'' :=
 ⟨h2.os.trans h.os, h2.tape.trans h.tape, h2.output.trans h.output, Nat.le_trans h.size h2.size, fun q hq => (h2.tgk q (Nat.lt_of_lt_of_le hq h.size)).trans (h.tgk q hq), fun q hq hc => (h2.blk q (Nat.lt_of_lt_of_le hq h.size) (by rw [h.tgk q hq]; exact hc)).trans (h.blk q hq hc)⟩
theorem Vm.K.grown (h : Vm.K C tg tg' W W2) {row : Option Nat} (hg : W2.grownBy w6 row) (hr : ∀ q, row = some q → q < W.heap.size → C (tg q)) : Vm.K C tg tg' W w6 :=
 ⟨hg.os.trans h.os, hg.tape.trans h.tape, hg.output.trans h.output, Nat.le_trans h.size hg.size, h.tgk, fun q hq hc => (hg.block q (Nat.lt_of_lt_of_le hq h.size) (fun e => hc (hr q e.symm hq))).trans (h.blk q hq hc)⟩
theorem Vm.K.set (h : Vm.K C tg tg' W W2) (b o : Nat) (v : Value) (hb : b < W.heap.size → C (tg b)) : Vm.K C tg tg' W (W2.setCell ⟨b, o, none⟩ v) :=
 ⟨h.os, h.tape, h.output, by rw [World.size_setCell]; exact h.size, h.tgk, fun q hq hc => (Xr.set_other (by rintro rfl; exact hc (hb hq))).trans (h.blk q hq hc)⟩
theorem Vm.K.re (h : Vm.K C tg tg' W W') (ht : ∀ q, q < W.heap.size → tg'' q = tg q) : Vm.K C tg tg'' W W' := ⟨h.os, h.tape, h.output, h.size, ht, h.blk⟩
end
theorem Vm.retag {W W2 : World} {tg : Nat → Nat} {v : Value} {j : Nat} (hv : ∀ q, v.ownBlock = some q → tg q = j) (hb : W.heap.size ≤ W2.heap.size) {g : Nat} (hat : v.ownBlock = some g ∨ g = W2.heap.size) : ∀ q, q < W.heap.size → (if q = g then j else tg q) = tg q := by
 intro q hq
 split
 · rename_i e
   subst e
   rcases hat with e | e
   · exact (hv q e).symm
   · omega
 · rfl
structure Vm.Z where
 bf : Nat
 pv : Value
 sa : Pg.Sl
 mb : Nat
 nm : Nat
 D : DataW Unit
 mv : Nat → Option (Nat × Nat)
def Vm.enc (b n c : Nat) : DataW Unit := .agg [.lit (.int .i64 b), .lit (.int .i64 n), .lit (.int .i64 c)]
def Vm.R : Value → Option (DataW Unit × List MemPlace)
 | .slice none n c => if n = 0 ∧ c = 0 then some (.nil, []) else none
 | .slice (some a) n c => if a = ⟨a.block, 0, none⟩ then some (Vm.enc a.block n c, []) else none
 | _ => none
theorem Vm.R_nil : Vm.R (.slice none 0 0) = some (.nil, []) := rfl
theorem Vm.R_enc (b n c : Nat) : Vm.R (.slice (some ⟨b, 0, none⟩) n c) = some (Vm.enc b n c, []) := by
 show (if (⟨b, 0, none⟩ : Addr) = ⟨b, 0, none⟩ then some (Vm.enc b n c, []) else none) = _
 rw [if_pos rfl]
theorem Vm.R_inv0 {v : Value} {ps : List MemPlace} (h : Vm.R v = some (.nil, ps)) : v = .slice none 0 0 := by
 unfold Vm.R at h
 split at h
 · split at h
   · rename_i e
     obtain ⟨rfl, rfl⟩ := e
     rfl
   · cases h
 · split at h
   · simp [Vm.enc] at h
   · cases h
 · cases h
theorem Vm.R_inv {v : Value} {b n c : Nat} {ps : List MemPlace} (h : Vm.R v = some (Vm.enc b n c, ps)) : v = .slice (some ⟨b, 0, none⟩) n c := by
 unfold Vm.R at h
 split at h
 · split at h
   · simp [Vm.enc] at h
   · cases h
 · split at h
   · rename_i a n' c' e
     simp [Vm.enc] at h
     obtain ⟨h1, h2, h3⟩ := h.1
     rw [e]
     have e1 : a.block = b := by omega
     have e2 : n' = n := by omega
     have e3 : c' = c := by omega
     rw [e1, e2, e3]
   · cases h
 · cases h
def Vm.fb (f : Vd.F) (z : Vm.Z) : List Value := [.int .i64 (f.fr.num : Nat), .int .i64 f.fr.at_, .int .i64 (f.pc : Nat), z.pv, .slice z.sa.ad z.sa.len z.sa.cap, .map (some z.mb)]
def Vm.At (w0 W : World) (tg : Nat → Nat) (d : Nat) (D : DataW Unit) (l : List Int) : Option (Nat × Nat) → Prop
 | none => D = .nil ∧ l = List.replicate l.length 0
 | some (b, c) => D = Vm.enc b l.length c ∧ w0.heap.size ≤ b ∧ tg b = 13 + 4 * d ∧ l.length ≤ c ∧ Vm.Bx W b (l.map (Value.int .i64))
structure Vm.Fr (w0 W : World) (tg : Nat → Nat) (N d : Nat) (ss : List (List Int)) (f : Vd.F) (z : Vm.Z) : Prop where
 hb : w0.heap.size ≤ z.bf
 tb : tg z.bf = 10 + 4 * d
 box : Vm.Bx W z.bf (Vm.fb f z)
 pr : W.ownsRow w0.heap.size 3 1 z.pv f.pile.length (f.pile.reverse.map (Value.int .i64))
 tp : ∀ q, z.pv.ownBlock = some q → tg q = 11 + 4 * d
 rs : Pg.RN w0 z.sa (ss[f.fn]?.getD [])
 hm : w0.heap.size ≤ z.mb
 tm : tg z.mb = 12 + 4 * d
 mp : W.ownsMap Tryz.prog 3 Vm.R z.mb z.nm z.D
 few : z.nm ≤ N
 at_ : ∀ (v : Nat) (l : List Int), f.fr.vs[v]? = some l → Vm.At w0 W tg d (z.D.atKey (.int .i64 (v : Nat)) .nil) l (z.mv v)
 inj : ∀ (v v' b c c' : Nat), z.mv v = some (b, c) → z.mv v' = some (b, c') → v = v'
 mlt : ∀ (v b c : Nat), z.mv v = some (b, c) → v < f.fr.vs.length
abbrev Vm.X : Type := Vd.F × Vm.Z
def Vm.Frs (w0 W : World) (tg : Nat → Nat) (N : Nat) (ss : List (List Int)) : List Vm.X → Prop
 | [] => True
 | x :: r => Vm.Fr w0 W tg N r.length ss x.1 x.2 ∧ Vm.Frs w0 W tg N ss r
structure Vm.Cx where
 si : Pg.Sl
 sf : Pg.Sl
 sz : Pg.Sl
def Vm.mb (c : Vm.Cx) (t : Pg.Sl) (s : Xr.S) (md : Nat) (rf ev : Value) : List Value := [.slice c.si.ad c.si.len c.si.cap, .slice c.sf.ad c.sf.len c.sf.cap, .slice c.sz.ad c.sz.len c.sz.cap, .slice t.ad t.len t.cap, .int .i64 (s.fuel : Nat), .int .i64 (md : Nat), rf, ev, .bool s.ended]
def Vm.ps (ms : List Vm.X) : List Value := (ms.map fun x => Value.pointer (some ⟨x.2.bf, 0, none⟩)).reverse
structure Vm.G (w0 W : World) (tg : Nat → Nat) (bm : Nat) (c : Vm.Cx) (t : Pg.Sl) (s : Xr.S) (md : Nat) (rf ev : Value) (ps : List Value) : Prop where
 bel : Below w0.heap.size w0 W
 lo : ∀ q, q < w0.heap.size → tg q = 4
 hbm : w0.heap.size ≤ bm
 tb : tg bm = 0
 box : Vm.Bx W bm (Vm.mb c t s md rf ev)
 inp : Pg.RN w0 t s.inp
 evr : W.ownsRow w0.heap.size 63 6 ev s.evs.length (Xr.evC s.evs)
 tev : ∀ q, ev.ownBlock = some q → tg q = 1
 frr : W.ownsRow w0.heap.size 50 1 rf ps.length ps
 trf : ∀ q, rf.ownBlock = some q → tg q = 2
structure Vm.J (w0 W : World) (tg : Nat → Nat) (N bm : Nat) (c : Vm.Cx) (ss : List (List Int)) (s : Xr.S) (ms : List Vm.X) (rf ev : Value) : Prop where
 g : ∃ t, Vm.G w0 W tg bm c t s (s.made + 1) rf ev (Vm.ps ms)
 frs : Vm.Frs w0 W tg N ss ms
def Vm.C (d j : Nat) : Prop := j < 3 ∨ 10 + 4 * d ≤ j
section
variable {w0 W W' : World} {C : Nat → Prop} {tg tg' : Nat → Nat} {N d bm : Nat} {c : Vm.Cx} {t : Pg.Sl} {ss : List (List Int)} {s : Xr.S} {md : Nat} {rf ev : Value} {ps : List Value} {f : Vd.F} {z : Vm.Z} {ms : List Vm.X}
theorem Vm.map_kept {b n : Nat} {D : DataW Unit} (h : W.ownsMap Tryz.prog 3 Vm.R b n D) (hk : W'.heap[b]? = W.heap[b]?) : W'.ownsMap Tryz.prog 3 Vm.R b n D := by
 obtain ⟨es, clock, hb, r⟩ := h
 exact ⟨es, clock, hk.trans hb, r⟩
theorem Vm.At.keep {D : DataW Unit} {l : List Int} {o : Option (Nat × Nat)} (h : Vm.At w0 W tg d D l o) (k : Vm.K C tg tg' W W') (hc : ¬ C (13 + 4 * d)) : Vm.At w0 W' tg' d D l o := by
 cases o with
 | none => exact h
 | some y =>
  obtain ⟨b, c⟩ := y
  obtain ⟨h1, h2, h3, h4, h5⟩ := h
  exact ⟨h1, h2, (k.tgk b h5.lt).trans h3, h4, h5.kept k.size (k.blk b h5.lt (by rw [h3]; exact hc))⟩
theorem Vm.Fr.keep (h : Vm.Fr w0 W tg N d ss f z) (k : Vm.K C tg tg' W W') (hc : ∀ j, 10 + 4 * d ≤ j → j < 14 + 4 * d → ¬ C j) : Vm.Fr w0 W' tg' N d ss f z := by
 have hml := h.mp.lt
 exact ⟨h.hb, (k.tgk _ h.box.lt).trans h.tb, h.box.kept k.size (k.blk _ h.box.lt (by rw [h.tb]; exact hc _ (by omega) (by omega))), Xr.ow_kept h.pr (fun q hq => k.blk q (h.pr.lt q hq).2 (by rw [h.tp q hq]; exact hc _ (by omega) (by omega))), fun q hq => (k.tgk q (h.pr.lt q hq).2).trans (h.tp q hq), h.rs, h.hm, (k.tgk _ hml).trans h.tm, Vm.map_kept h.mp (k.blk _ hml (by rw [h.tm]; exact hc _ (by omega) (by omega))), h.few, fun v l hv => (h.at_ v l hv).keep k (hc _ (by omega) (by omega)), h.inj, h.mlt⟩
theorem Vm.Fr.more {N' : Nat} (h : Vm.Fr w0 W tg N d ss f z) (hn : N ≤ N') : Vm.Fr w0 W tg N' d ss f z := ⟨h.hb, h.tb, h.box, h.pr, h.tp, h.rs, h.hm, h.tm, h.mp, Nat.le_trans h.few hn, h.at_, h.inj, h.mlt⟩
theorem Vm.Frs.keep : ∀ {ms : List Vm.X}, Vm.Frs w0 W tg N ss ms → Vm.K C tg tg' W W' → (∀ j, 10 ≤ j → j < 10 + 4 * ms.length → ¬ C j) → Vm.Frs w0 W' tg' N ss ms
 | [], _, _, _ => trivial
 | x :: r, h, k, hc => by
  rw [List.length_cons] at hc
  exact ⟨h.1.keep k (fun j h1 h2 => hc j (by omega) (by omega)), Vm.Frs.keep h.2 k (fun j h1 h2 => hc j h1 (by omega))⟩
theorem Vm.Frs.more {N' : Nat} (hn : N ≤ N') : ∀ {ms : List Vm.X}, Vm.Frs w0 W tg N ss ms → Vm.Frs w0 W tg N' ss ms
 | [], _ => trivial
 | x :: r, h => ⟨h.1.more hn, Vm.Frs.more hn h.2⟩
theorem Vm.G.belK (h : Vm.G w0 W tg bm c t s md rf ev ps) (k : Vm.K C tg tg' W W') (hc : ¬ C 4) : Below w0.heap.size w0 W' :=
 ⟨k.os.trans h.bel.os, k.tape.trans h.bel.tape, k.output.trans h.bel.output, Nat.le_trans h.bel.size k.size, fun q hq => (k.blk q (Nat.lt_of_lt_of_le hq h.bel.size) (by rw [h.lo q hq]; exact hc)).trans (h.bel.block q hq)⟩
theorem Vm.G.loK (h : Vm.G w0 W tg bm c t s md rf ev ps) (k : Vm.K C tg tg' W W') : ∀ q, q < w0.heap.size → tg' q = 4 := fun q hq => (k.tgk q (Nat.lt_of_lt_of_le hq h.bel.size)).trans (h.lo q hq)
theorem Vm.G.keep (h : Vm.G w0 W tg bm c t s md rf ev ps) (k : Vm.K C tg tg' W W') (hc : ∀ j, j < 5 → ¬ C j) : Vm.G w0 W' tg' bm c t s md rf ev ps :=
 ⟨h.belK k (hc 4 (by omega)), h.loK k, h.hbm, (k.tgk _ h.box.lt).trans h.tb, h.box.kept k.size (k.blk _ h.box.lt (by rw [h.tb]; exact hc 0 (by omega))), h.inp, Xr.ow_kept h.evr (fun q hq => k.blk q (h.evr.lt q hq).2 (by rw [h.tev q hq]; exact hc 1 (by omega))), fun q hq => (k.tgk q (h.evr.lt q hq).2).trans (h.tev q hq), Xr.ow_kept h.frr (fun q hq => k.blk q (h.frr.lt q hq).2 (by rw [h.trf q hq]; exact hc 2 (by omega))), fun q hq => (k.tgk q (h.frr.lt q hq).2).trans (h.trf q hq)⟩
theorem Vm.J.keep (h : Vm.J w0 W tg N bm c ss s ms rf ev) (k : Vm.K C tg tg' W W') (hc : ∀ j, ¬ C j) : Vm.J w0 W' tg' N bm c ss s ms rf ev := by
 obtain ⟨t, hg⟩ := h.g
 exact ⟨⟨t, hg.keep k (fun j _ => hc j)⟩, h.frs.keep k (fun j _ _ => hc j)⟩
theorem Vm.J.below (h : Vm.J w0 W tg N bm c ss s ms rf ev) (hb : Below W.heap.size W W') : Vm.J w0 W' tg N bm c ss s ms rf ev := h.keep (C := fun _ => False) (Vm.K.below hb) (fun _ => id)
theorem Vm.J.more {N' : Nat} (h : Vm.J w0 W tg N bm c ss s ms rf ev) (hn : N ≤ N') : Vm.J w0 W tg N' bm c ss s ms rf ev := ⟨h.g, h.frs.more hn⟩
theorem Vm.J.alloc (h : Vm.J w0 W tg N bm c ss s ms rf ev) (C : Nat → Prop) (o : Obj) : Vm.J w0 (W.alloc o) (fun q => if q = W.heap.size then 3 else tg q) N bm c ss s ms rf ev ∧ Vm.K C tg (fun q => if q = W.heap.size then 3 else tg q) W (W.alloc o) := by
 have k : Vm.K (fun _ => False) tg (fun q => if q = W.heap.size then 3 else tg q) W (W.alloc o) := (Vm.K.below ((Below.refl W.heap.size W).alloc (Nat.le_refl _) o)).re (fun q hq => if_neg (by omega))
 exact ⟨h.keep k (fun _ => id), k.mono (fun _ => False.elim)⟩
theorem Vm.J.machine {s' : Xr.S} {t' : Pg.Sl} {rf' ev' : Value} (h : Vm.J w0 W tg N bm c ss s ms rf ev) (hg : Vm.G w0 W' tg' bm c t' s' (s'.made + 1) rf' ev' (Vm.ps ms)) (k : Vm.K (fun j => j < 3) tg tg' W W') : Vm.J w0 W' tg' N bm c ss s' ms rf' ev' :=
 ⟨⟨t', hg⟩, h.frs.keep k (fun j h1 _ => by omega)⟩
def Vm.Cf (d j : Nat) : Prop := 10 + 4 * d ≤ j ∧ j < 14 + 4 * d
def Vm.Cv (d j : Nat) : Prop := 12 + 4 * d ≤ j ∧ j < 14 + 4 * d
theorem Vm.Cv_Cf {d : Nat} : ∀ j, Vm.Cv d j → Vm.Cf d j := fun j hj => by unfold Vm.Cv at hj; unfold Vm.Cf; omega
def Vm.Cw (d j : Nat) : Prop := j < 3 ∨ 12 + 4 * d ≤ j
theorem Vm.Cv_Cw {d : Nat} : ∀ j, Vm.Cv d j → Vm.Cw d j := fun j hj => .inr hj.1
theorem Vm.Cm_Cw {d : Nat} : ∀ j, j < 3 → Vm.Cw d j := fun j hj => .inl hj
theorem Vm.J.frame {N' : Nat} {f' : Vd.F} {z' : Vm.Z} {r : List Vm.X} (h : Vm.J w0 W tg N bm c ss s ((f, z) :: r) rf ev) (hf : Vm.Fr w0 W' tg' N' r.length ss f' z') (hz : z'.bf = z.bf) (hn : N ≤ N') (k : Vm.K (Vm.Cf r.length) tg tg' W W') : Vm.J w0 W' tg' N' bm c ss s ((f', z') :: r) rf ev := by
 obtain ⟨t, hg⟩ := h.g
 have e : Vm.ps ((f', z') :: r) = Vm.ps ((f, z) :: r) := by unfold Vm.ps; rw [List.map_cons, List.map_cons, hz]
 exact ⟨⟨t, by rw [e]; exact hg.keep k (fun j hj => by unfold Vm.Cf; omega)⟩, hf, (h.frs.2.keep k (fun j h1 h2 => by unfold Vm.Cf; omega)).more hn⟩
theorem Vm.G.set (h : Vm.G w0 W tg bm c t s md rf ev ps) (i : Nat) (v : Value) {t' : Pg.Sl} {s' : Xr.S} {md' : Nat} (hi : (Vm.mb c t s md rf ev).set i v = Vm.mb c t' s' md' rf ev) (hinp : Pg.RN w0 t' s'.inp) (he : s'.evs = s.evs) : Vm.G w0 (W.setCell ⟨bm, i, none⟩ v) tg bm c t' s' md' rf ev ps ∧ Vm.K (fun j => j < 3) tg tg W (W.setCell ⟨bm, i, none⟩ v) := by
 have k : Vm.K (fun j => j = 0) tg tg W (W.setCell ⟨bm, i, none⟩ v) := Vm.K.refl.set bm i v (fun _ => h.tb)
 refine ⟨⟨h.belK k (by decide), h.lo, h.hbm, h.tb, by rw [← hi]; exact h.box.set i v, hinp, ?_, h.tev, Xr.ow_kept h.frr (fun q hq => k.blk q (h.frr.lt q hq).2 (by rw [h.trf q hq]; decide)), h.trf⟩, k.mono (fun j hj => by omega)⟩
 rw [he]
 exact Xr.ow_kept h.evr (fun q hq => k.blk q (h.evr.lt q hq).2 (by rw [h.tev q hq]; decide))
theorem Vm.G.told {W2 w6 : World} (h : Vm.G w0 W tg bm c t s md rf ev ps) (hb : Below W.heap.size W W2) (hg : W2.grownBy w6 ev.ownBlock) (e : Ev) (g cc : Nat)
  (ho : w6.ownsRow w0.heap.size 63 6 (.slice (some ⟨g, 0, none⟩) (s.evs.length + 1) cc) (s.evs.length + 1) (Xr.evC s.evs ++ e.cells)) (hat : ev.ownBlock = some g ∨ g = W2.heap.size) :
  Vm.G w0 (w6.setCell ⟨bm, 7, none⟩ (.slice (some ⟨g, 0, none⟩) (s.evs.length + 1) cc)) (fun q => if q = g then 1 else tg q) bm c t { s with evs := s.evs ++ [e] } md rf (.slice (some ⟨g, 0, none⟩) (s.evs.length + 1) cc) ps ∧ Vm.K (fun j => j < 3) tg (fun q => if q = g then 1 else tg q) W (w6.setCell ⟨bm, 7, none⟩ (.slice (some ⟨g, 0, none⟩) (s.evs.length + 1) cc)) := by
 have hre := Vm.retag (W := W) (W2 := W2) h.tev hb.size hat
 have k1 : Vm.K (fun j => j = 1) tg (fun q => if q = g then 1 else tg q) W w6 := ((Vm.K.below hb).grown hg (fun q hq _ => h.tev q hq)).re hre
 have k2 : Vm.K (fun j => j < 2) tg (fun q => if q = g then 1 else tg q) W (w6.setCell ⟨bm, 7, none⟩ (.slice (some ⟨g, 0, none⟩) (s.evs.length + 1) cc)) := (k1.mono (fun j hj => by omega)).set bm 7 _ (fun _ => by rw [h.tb]; omega)
 have hgb : g ≠ bm := by
  rintro rfl
  have := hre g h.box.lt
  rw [if_pos rfl, h.tb] at this
  exact absurd this (by decide)
 refine ⟨⟨h.belK k2 (by decide), h.loK k2, h.hbm, (k2.tgk bm h.box.lt).trans h.tb, (h.box.kept k1.size (k1.blk bm h.box.lt (by rw [h.tb]; decide))).set 7 _, h.inp, ?_, ?_, Xr.ow_kept h.frr (fun q hq => k2.blk q (h.frr.lt q hq).2 (by rw [h.trf q hq]; decide)), fun q hq => (k2.tgk q (h.frr.lt q hq).2).trans (h.trf q hq)⟩, k2.mono (fun j hj => by omega)⟩
 · show World.ownsRow _ _ _ _ _ (s.evs ++ [e]).length (Xr.evC (s.evs ++ [e]))
   rw [Xr.evC_snoc, List.length_append]
   refine Xr.ow_kept ho (fun q hq => ?_)
   cases hq
   exact Xr.set_other hgb
 · intro q hq
   cases hq
   exact if_pos rfl
theorem Vm.Fr.set (h : Vm.Fr w0 W tg N d ss f z) (i : Nat) (v : Value) {f' : Vd.F} {z' : Vm.Z} (hi : (Vm.fb f z).set i v = Vm.fb f' z') (hb : z'.bf = z.bf) (hv : f'.fr.vs = f.fr.vs) (hp : f'.pile = f.pile) (hfn : f'.fn = f.fn) (hz : z' = z) : Vm.Fr w0 (W.setCell ⟨z.bf, i, none⟩ v) tg N d ss f' z' ∧ Vm.K (Vm.Cf d) tg tg W (W.setCell ⟨z.bf, i, none⟩ v) := by
 subst hz
 have k : Vm.K (fun j => j = 10 + 4 * d) tg tg W (W.setCell ⟨z'.bf, i, none⟩ v) := Vm.K.refl.set z'.bf i v (fun _ => h.tb)
 refine ⟨⟨h.hb, h.tb, by rw [← hi]; exact h.box.set i v, by rw [hp]; exact Xr.ow_kept h.pr (fun q hq => k.blk q (h.pr.lt q hq).2 (by rw [h.tp q hq]; omega)), h.tp, by rw [hfn]; exact h.rs, h.hm, h.tm, Vm.map_kept h.mp (k.blk _ h.mp.lt (by rw [h.tm]; omega)), h.few, fun u l hu => (h.at_ u l (by rw [← hv]; exact hu)).keep k (by omega), h.inj, by rw [hv]; exact h.mlt⟩, k.mono (fun j hj => by unfold Vm.Cf; omega)⟩
theorem Vm.Fr.pushed {W2 w6 : World} (h : Vm.Fr w0 W tg N d ss f z) (hb : Below W.heap.size W W2) (hg : W2.grownBy w6 z.pv.ownBlock) (n : Int) (g cc : Nat)
  (ho : w6.ownsRow w0.heap.size 3 1 (.slice (some ⟨g, 0, none⟩) (f.pile.length + 1) cc) (f.pile.length + 1) (f.pile.reverse.map (Value.int .i64) ++ [.int .i64 n])) (hat : z.pv.ownBlock = some g ∨ g = W2.heap.size) :
  Vm.Fr w0 (w6.setCell ⟨z.bf, 3, none⟩ (.slice (some ⟨g, 0, none⟩) (f.pile.length + 1) cc)) (fun q => if q = g then 11 + 4 * d else tg q) N d ss { f with pile := n :: f.pile } { z with pv := .slice (some ⟨g, 0, none⟩) (f.pile.length + 1) cc } ∧ Vm.K (Vm.Cf d) tg (fun q => if q = g then 11 + 4 * d else tg q) W (w6.setCell ⟨z.bf, 3, none⟩ (.slice (some ⟨g, 0, none⟩) (f.pile.length + 1) cc)) := by
 have hre := Vm.retag (W := W) (W2 := W2) h.tp hb.size hat
 have k1 : Vm.K (fun j => j = 11 + 4 * d) tg (fun q => if q = g then 11 + 4 * d else tg q) W w6 := ((Vm.K.below hb).grown hg (fun q hq _ => h.tp q hq)).re hre
 have k2 : Vm.K (fun j => j = 10 + 4 * d ∨ j = 11 + 4 * d) tg (fun q => if q = g then 11 + 4 * d else tg q) W (w6.setCell ⟨z.bf, 3, none⟩ (.slice (some ⟨g, 0, none⟩) (f.pile.length + 1) cc)) := (k1.mono (fun j hj => .inr hj)).set z.bf 3 _ (fun _ => .inl h.tb)
 have hgb : g ≠ z.bf := by
  rintro rfl
  have := hre z.bf h.box.lt
  rw [if_pos rfl, h.tb] at this
  omega
 refine ⟨⟨h.hb, (k2.tgk _ h.box.lt).trans h.tb, (h.box.kept k1.size (k1.blk _ h.box.lt (by rw [h.tb]; omega))).set 3 _, ?_, ?_, h.rs, h.hm, (k2.tgk _ h.mp.lt).trans h.tm, Vm.map_kept h.mp (k2.blk _ h.mp.lt (by rw [h.tm]; omega)), h.few, fun v l hv => (h.at_ v l hv).keep k2 (by omega), h.inj, h.mlt⟩, k2.mono (fun j hj => by unfold Vm.Cf; omega)⟩
 · show World.ownsRow _ _ _ _ _ (n :: f.pile).length (((n :: f.pile).reverse).map (Value.int .i64))
   rw [List.reverse_cons, List.map_append]
   refine Xr.ow_kept ho (fun q hq => ?_)
   cases hq
   exact Xr.set_other hgb
 · intro q hq
   cases hq
   exact if_pos rfl
theorem Vm.row_cut {base e g n cap : Nat} {xs ys : List Value} (h : W.ownsRow base e 1 (.slice (some ⟨g, 0, none⟩) n cap) n xs) (hxs : ∃ q, xs = ys ++ q) : W.ownsRow base e 1 (.slice (some ⟨g, 0, none⟩) ys.length cap) ys.length ys := by
 obtain ⟨q, rfl⟩ := hxs
 have hl := h.1
 rw [List.length_append, Nat.mul_one] at hl
 rcases h.2 with ⟨h1, _⟩ | ⟨g', cap', cur, h1, h2, h3, h4, h5, h6, h7⟩
 · cases h1
 · cases h1
   refine ⟨by omega, .inr ⟨g, cap, cur, rfl, h2, h3, by omega, h5, h6, ?_⟩⟩
   rw [Nat.mul_one] at h7 ⊢
   have e1 : (cur.toList.take n).take ys.length = ys := by rw [h7, List.take_left]
   rw [List.take_take] at e1
   rw [Nat.min_eq_left (by omega)] at e1
   exact e1
theorem Vm.Fr.popped (h : Vm.Fr w0 W tg N d ss f z) (p q : List Int) (hpq : f.pile = p ++ q) (v : Value) (hv : (v = z.pv ∧ p = []) ∨ ∃ g n cc, z.pv = .slice (some ⟨g, 0, none⟩) n cc ∧ v = .slice (some ⟨g, 0, none⟩) q.length cc) :
  Vm.Fr w0 (W.setCell ⟨z.bf, 3, none⟩ v) tg N d ss { f with pile := q } { z with pv := v } ∧ Vm.K (Vm.Cf d) tg tg W (W.setCell ⟨z.bf, 3, none⟩ v) := by
 have k : Vm.K (fun j => j = 10 + 4 * d) tg tg W (W.setCell ⟨z.bf, 3, none⟩ v) := Vm.K.refl.set z.bf 3 v (fun _ => h.tb)
 have key : W.ownsRow w0.heap.size 3 1 v q.length (q.reverse.map (Value.int .i64)) ∧ ∀ b, v.ownBlock = some b → z.pv.ownBlock = some b := by
  have hp := h.pr
  rcases hv with ⟨rfl, rfl⟩ | ⟨g, n, cc, e1, rfl⟩
  · rw [List.nil_append] at hpq
    rw [hpq] at hp
    exact ⟨hp, fun b => id⟩
  · rw [e1] at hp
    obtain rfl : n = f.pile.length := by
     rcases hp.2 with ⟨e, _⟩ | ⟨_, _, _, e, _⟩
     · cases e
     · cases e; rfl
    have := Vm.row_cut (ys := q.reverse.map (Value.int .i64)) hp ⟨p.reverse.map (Value.int .i64), by rw [hpq, List.reverse_append, List.map_append]⟩
    rw [List.length_map, List.length_reverse] at this
    exact ⟨this, fun b hb => by rw [e1]; exact hb⟩
 refine ⟨⟨h.hb, h.tb, h.box.set 3 v, Xr.ow_kept key.1 (fun b hb => k.blk b (h.pr.lt b (key.2 b hb)).2 (by rw [h.tp b (key.2 b hb)]; omega)), fun b hb => h.tp b (key.2 b hb), h.rs, h.hm, h.tm, Vm.map_kept h.mp (k.blk _ h.mp.lt (by rw [h.tm]; omega)), h.few, fun v l hv => (h.at_ v l hv).keep k (by omega), h.inj, h.mlt⟩, k.mono (fun j hj => by unfold Vm.Cf; omega)⟩
theorem Vm.Fr.wrote (h : Vm.Fr w0 W tg N d ss f z) (v i : Nat) (n : Int) {b cc : Nat} (hm : z.mv v = some (b, cc)) (hv : v < f.fr.vs.length) :
  Vm.Fr w0 (W.setCell ⟨b, i, none⟩ (.int .i64 n)) tg N d ss { f with fr := Xr.wrF f.fr (v : Nat) (i : Nat) n } z ∧ Vm.K (Vm.Cv d) tg tg W (W.setCell ⟨b, i, none⟩ (.int .i64 n)) := by
 obtain ⟨l, hl⟩ : ∃ l, f.fr.vs[v]? = some l := ⟨_, List.getElem?_eq_getElem hv⟩
 have ha := h.at_ v l hl
 rw [hm] at ha
 obtain ⟨a1, a2, a3, a4, a5⟩ := ha
 have k : Vm.K (fun j => j = 13 + 4 * d) tg tg W (W.setCell ⟨b, i, none⟩ (.int .i64 n)) := Vm.K.refl.set b i _ (fun _ => a3)
 refine ⟨⟨h.hb, h.tb, h.box.kept k.size (k.blk _ h.box.lt (by rw [h.tb]; omega)), Xr.ow_kept h.pr (fun q hq => k.blk q (h.pr.lt q hq).2 (by rw [h.tp q hq]; omega)), h.tp, h.rs, h.hm, h.tm, Vm.map_kept h.mp (k.blk _ h.mp.lt (by rw [h.tm]; omega)), h.few, fun u m hu => ?_, h.inj, fun u b c hu => by rw [show ({ f with fr := Xr.wrF f.fr (v : Nat) (i : Nat) n } : Vd.F).fr.vs.length = f.fr.vs.length from Xr.upd_len _ _ _ _]; exact h.mlt u b c hu⟩, k.mono (fun j hj => by unfold Vm.Cv; omega)⟩
 have hu2 : (Xr.upd f.fr.vs v i n)[u]? = some m := by
  have : (Xr.wrF f.fr (v : Nat) (i : Nat) n).vs = Xr.upd f.fr.vs v i n := by unfold Xr.wrF; rw [Int.toNat_natCast, Int.toNat_natCast]
  rw [← this]
  exact hu
 rw [Xr.upd_at hl] at hu2
 split at hu2
 · rename_i e
   cases hu2
   obtain rfl : u = v := by omega
   rw [hm]
   refine ⟨by rw [List.length_set]; exact a1, a2, a3, by rw [List.length_set]; exact a4, ?_⟩
   rw [List.map_set]
   exact a5.set i _
 · rename_i e
   have hau := h.at_ u m hu2
   cases hmu : z.mv u with
   | none => rw [hmu] at hau; exact hau
   | some y =>
    obtain ⟨b', c'⟩ := y
    rw [hmu] at hau
    obtain ⟨e1, e2, e3, e4, e5⟩ := hau
    have hbb : b' ≠ b := by
     rintro rfl
     have := h.inj v u b' cc c' hm hmu
     omega
    exact ⟨e1, e2, e3, e4, e5.kept (by rw [World.size_setCell]; exact Nat.le_refl _) (Xr.set_other hbb)⟩
end
end Go.Proofs.YtpfogjplnodacaaGreat
namespace Go.Proofs.YtpfogjplnodacaaGreat
open Go.RowKit
set_option linter.unusedVariables false
def Vd.takes (x : Kd.I) : Int := if x.k = 4 ∨ x.k = 6 ∨ x.k = 9 ∨ x.k = 11 ∨ x.k = 13 then 1 else if x.k = 5 ∨ x.k = 7 then 2 else if x.k = 12 then x.b else 0
def Vd.can2 (ss : List (List Int)) (x : Kd.I) (f : Vd.F) (r : List Vd.F) : Bool :=
 if x.k = 2 then decide (f.pile.length < 64)
 else if x.k = 3 then decide (f.pile.length < 64) && Vd.plain (ss[f.fn]?.getD []) x.a
 else if x.k = 6 ∨ x.k = 8 then Vd.plain (ss[f.fn]?.getD []) x.a
 else if x.k = 4 ∨ x.k = 7 then Vd.arr (ss[f.fn]?.getD []) x.a
 else if x.k = 12 then decide (x.b ≤ ((ss[x.a.toNat]?.getD []).length : Int)) && !((ss[x.a.toNat]?.getD []).take x.b.toNat).any Pg.notNought
 else if x.k = 13 then (match r with | [] => false | g :: _ => decide (g.pile.length < 64))
 else if x.k = 14 then decide (r.length = 0)
 else true
def Vd.can (ss : List (List Int)) (x : Kd.I) (f : Vd.F) (r : List Vd.F) : Bool := !decide ((f.pile.length : Int) < Vd.takes x) && Vd.can2 ss x f r
theorem Vd.none_all (l : List Int) : (!l.any Pg.notNought) = l.all (· == 0) := by
 induction l with
 | nil => rfl
 | cons y r ih =>
  rw [List.any_cons, List.all_cons, Bool.not_or, ih]
  congr 1
  unfold Pg.notNought
  by_cases h : y = 0
  · subst h; rfl
  · simp [h]
theorem Vd.lost_iff {fs : List Int} {ss : List (List Int)} {s : Xr.S} {f : Vd.F} {r : List Vd.F} {x : Kd.I} (hk : 1 ≤ x.k ∧ x.k ≤ 14) (hb : x.k = 12 → 0 ≤ x.b) : (Vd.does fs ss x s f r).lost = !Vd.can ss x f r := by
 obtain ⟨kx, a, b⟩ := x
 dsimp only at hk hb
 have hl : ∀ (c : Prop) [Decidable c] (t : Vd.St), t.lost = false → (if c then t else Vd.astray s).lost = !decide c := fun c _ t ht => by
  split
  · rename_i h; rw [ht, decide_eq_true h]; rfl
  · rename_i h; rw [decide_eq_false h]; rfl
 rcases (show kx = 1 ∨ kx = 2 ∨ kx = 3 ∨ kx = 8 ∨ kx = 10 ∨ kx = 12 ∨ kx = 14 ∨ (kx = 4 ∨ kx = 5 ∨ kx = 6 ∨ kx = 7 ∨ kx = 9 ∨ kx = 11 ∨ kx = 13) by omega) with rfl | rfl | rfl | rfl | rfl | rfl | rfl | hkk
 · rw [Vd.d1]
   split <;> rfl
 · rw [Vd.d2, hl _ _ rfl]
   rfl
 · rw [Vd.d3, hl _ _ rfl]
   show (!decide (f.pile.length < 64 ∧ Vd.plain (ss[f.fn]?.getD []) a = true)) = !(decide (f.pile.length < 64) && Vd.plain (ss[f.fn]?.getD []) a)
   rw [Bool.decide_and, Bool.decide_eq_true]
 · rw [Vd.d8, hl _ _ rfl]
   show (!decide (Vd.plain (ss[f.fn]?.getD []) a = true)) = !(Vd.plain (ss[f.fn]?.getD []) a)
   rw [Bool.decide_eq_true]
 · rfl
 · rw [Vd.d12, hl _ _ (by unfold Vd.call; split <;> rfl)]
   have h0 := hb rfl
   show _ = !(!decide ((f.pile.length : Int) < b) && (decide (b ≤ ((ss[a.toNat]?.getD []).length : Int)) && !((ss[a.toNat]?.getD []).take b.toNat).any Pg.notNought))
   rw [Vd.none_all, Bool.decide_and, Bool.decide_and, Bool.decide_eq_true]
   congr 2
   · rw [← decide_not]
     exact decide_eq_decide.2 (by omega)
   · congr 1
     exact decide_eq_decide.2 (by omega)
 · rw [Vd.d14, hl _ _ rfl]
   rfl
 · cases hp : f.pile with
   | nil =>
    rw [Vd.none hkk hp]
    unfold Vd.can Vd.takes
    rw [hp]
    rcases hkk with rfl | rfl | rfl | rfl | rfl | rfl | rfl <;> rfl
   | cons n q =>
    have hlen : ¬ ((f.pile.length : Int) < 1) := by rw [hp]; simp; omega
    have h1 : kx = 4 ∨ kx = 6 ∨ kx = 9 ∨ kx = 11 ∨ kx = 13 → Vd.can ss ⟨kx, a, b⟩ f r = Vd.can2 ss ⟨kx, a, b⟩ f r := fun h => by
     unfold Vd.can Vd.takes
     rw [if_pos h, decide_eq_false hlen]
     rfl
    rcases (show kx = 4 ∨ kx = 6 ∨ kx = 9 ∨ kx = 11 ∨ kx = 13 ∨ (kx = 5 ∨ kx = 7) by omega) with rfl | rfl | rfl | rfl | rfl | hk2
    · rw [Vd.d4 a b hp, hl _ _ (by split <;> rfl), h1 (by omega)]
      show (!decide (Vd.arr (ss[f.fn]?.getD []) a = true)) = !(Vd.arr (ss[f.fn]?.getD []) a)
      rw [Bool.decide_eq_true]
    · rw [Vd.d6 a b hp, hl _ _ rfl, h1 (by omega)]
      show (!decide (Vd.plain (ss[f.fn]?.getD []) a = true)) = !(Vd.plain (ss[f.fn]?.getD []) a)
      rw [Bool.decide_eq_true]
    · rw [Vd.d9 a b hp, h1 (by omega)]
      rfl
    · rw [Vd.d11 a b hp, h1 (by omega)]
      rfl
    · rw [h1 (by omega)]
      cases r with
      | nil => rw [Vd.d13o a b hp]; rfl
      | cons g r2 => rw [Vd.d13 a b hp, hl _ _ rfl]; rfl
    · have h2 : ∀ m : Int, m = (f.pile.length : Int) → Vd.can ss ⟨kx, a, b⟩ f r = (!decide (m < 2) && Vd.can2 ss ⟨kx, a, b⟩ f r) := fun m hm => by
       unfold Vd.can Vd.takes
       dsimp only
       rw [if_neg (by omega), if_pos hk2, hm]
      cases q with
      | nil =>
       rw [Vd.one (z := n) hk2 hp, h2 1 (by rw [hp]; rfl)]
       rfl
      | cons i q2 =>
       rw [h2 ((q2.length + 2 : Nat) : Int) (by rw [hp]; rfl), decide_eq_false (by omega)]
       rcases hk2 with rfl | rfl
       · rw [Vd.d5 a b hp]
         split <;> rfl
       · rw [Vd.d7 a b hp, hl _ _ (by split <;> rfl)]
         show (!decide (Vd.arr (ss[f.fn]?.getD []) a = true)) = !(!false && Vd.arr (ss[f.fn]?.getD []) a)
         rw [Bool.decide_eq_true]
         rfl
theorem vtakes_any (x : Kd.I) (hk : 1 ≤ x.k ∧ x.k ≤ 14) (W : World) :
  Calls Tryz.prog 76 #[.agg #[.int .i64 x.k, .int .i64 x.a, .int .i64 x.b]] W fun r W' => r = .returned (.int .i64 (Vd.takes x)) ∧ Below W.heap.size W W' := by
 obtain ⟨k, a, b⟩ := x
 have HB := hide ((Below.refl W.heap.size W).alloc (Nat.le_refl _) (Obj.cells #[.int .i64 k, .int .i64 a, .int .i64 b] 54))
 dsimp only at hk ⊢
 rcases (show k = 1 ∨ k = 2 ∨ k = 3 ∨ k = 4 ∨ k = 5 ∨ k = 6 ∨ k = 7 ∨ k = 8 ∨ k = 9 ∨ k = 10 ∨ k = 11 ∨ k = 12 ∨ k = 13 ∨ k = 14 by omega) with rfl | rfl | rfl | rfl | rfl | rfl | rfl | rfl | rfl | rfl | rfl | rfl | rfl | rfl <;> (
  clear hk
  go_enter Tryz.func76, Tryz.ntmps76
  go_wp2_with fail
  go_ret
  exact ⟨rfl, unhide HB⟩)
end Go.Proofs.YtpfogjplnodacaaGreat
