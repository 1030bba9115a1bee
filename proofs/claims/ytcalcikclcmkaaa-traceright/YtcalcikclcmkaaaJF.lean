/-
  XZf, YMem, YTop, PValue, YVal, YZero, YCnt. By the verifier.
-/
import Derived.Test.YtcalcikclcmkaaaXModel
import Derived.Laws.OwnMore
import Derived.Test.YtcalcikclcmkaaaJE
import Derived.Test.YtcalcikclcmkaaaJB
import Derived.Deep.RegionHeld3
import Derived.Deep.RegionLaw
import Derived.Deep.QuietTactic
import Derived.Test.YtcalcikclcmkaaaPReckon
import Derived.Test.YtcalcikclcmkaaaPAll
set_option maxRecDepth 100000
set_option maxHeartbeats 6400000
namespace Go.Proofs.Ytcalcikclcmkaaa
open Go.RowKit
set_option linter.unusedVariables false
def Xr.zeros (sz : List Int) : List (List Int) := sz.map fun n => List.replicate (max n 1).toNat 0
structure Xr.Zf (W : World) (lo : Nat) (gv : Option Nat) (vb : List Nat) (c : Nat) (vs : List (List Int)) : Prop where
 ge : ∀ q ∈ gv.toList ++ vb, lo ≤ q ∧ q < W.heap.size
 nd : (gv.toList ++ vb).Nodup
 cap : vs.length ≤ c
 len : vb.length = vs.length
 few : vs.length ≤ 100
 at_ : ∀ i b l, vb[i]? = some b → vs[i]? = some l → ∃ g c', gv = some g ∧ W.cell? ⟨g, i, none⟩ = some (.slice (some ⟨b, 0, none⟩) l.length c') ∧ l.length ≤ c' ∧ l.length ≤ 100 ∧ (∀ j z, l[j]? = some z → W.cell? ⟨b, j, none⟩ = some (.int .i64 z)) ∧ ∀ j, W.frozen? ⟨b, j, none⟩ = false
theorem Xr.Zf.kept {W W' : World} {lo : Nat} {gv : Option Nat} {vb : List Nat} {c : Nat} {vs : List (List Int)} (h : Xr.Zf W lo gv vb c vs) (hz : W.heap.size ≤ W'.heap.size) (hk : ∀ q ∈ gv.toList ++ vb, W'.heap[q]? = W.heap[q]?) : Xr.Zf W' lo gv vb c vs := by
 refine ⟨fun q hq => ⟨(h.ge q hq).1, Nat.lt_of_lt_of_le (h.ge q hq).2 hz⟩, h.nd, h.cap, h.len, h.few, fun i b l hb hl => ?_⟩
 obtain ⟨g, c', e1, e2, e3, e4, e5, e6⟩ := h.at_ i b l hb hl
 have kg := hk g (by rw [e1]; simp)
 have kv := hk b (by have := List.mem_of_getElem? hb; simp [this])
 exact ⟨g, c', e1, (Xr.cell_kept kg i).trans e2, e3, e4, fun j z hz => (Xr.cell_kept kv j).trans (e5 j z hz), fun j => (Xr.frz_kept kv j).trans (e6 j)⟩
theorem Xr.Zf.below {W W' : World} {lo : Nat} {gv : Option Nat} {vb : List Nat} {c : Nat} {vs : List (List Int)} (h : Xr.Zf W lo gv vb c vs) (hb : Below W.heap.size W W') : Xr.Zf W' lo gv vb c vs := h.kept hb.size (fun q hq => hb.block q (h.ge q hq).2)
theorem Xr.Zf.lo {W : World} {lo lo' : Nat} {gv : Option Nat} {vb : List Nat} {c : Nat} {vs : List (List Int)} (h : Xr.Zf W lo gv vb c vs) (hl : lo' ≤ lo) : Xr.Zf W lo' gv vb c vs := ⟨fun q hq => ⟨Nat.le_trans hl (h.ge q hq).1, (h.ge q hq).2⟩, h.nd, h.cap, h.len, h.few, h.at_⟩
section
variable {W : World}
theorem Xr.Zf.set {lo : Nat} {gv : Option Nat} {vb : List Nat} {c : Nat} {vs : List (List Int)} (h : Xr.Zf W lo gv vb c vs) {v b i : Nat} {l : List Int} (hv : vs[v]? = some l) (hb : vb[v]? = some b) (hi : i < l.length) (z : Int) : Xr.Zf (W.setCell ⟨b, i, none⟩ (.int .i64 z)) lo gv vb c (Xr.upd vs v i z) := by
 have hnd := h.nd
 rw [List.nodup_append] at hnd
 obtain ⟨g0, c0, f1, f2, f3, f4, f5, f6⟩ := h.at_ v b l hb hv
 refine ⟨fun q hq => ⟨(h.ge q hq).1, by rw [World.size_setCell]; exact (h.ge q hq).2⟩, h.nd, by rw [Xr.upd_len]; exact h.cap, by rw [Xr.upd_len]; exact h.len, by rw [Xr.upd_len]; exact h.few, fun k b' l' hb' hl' => ?_⟩
 rw [Xr.upd_at hv] at hl'
 by_cases hk : k = v
 · subst hk
   rw [if_pos rfl] at hl'
   cases hl'
   rw [hb] at hb'
   cases hb'
   have hgb : g0 ≠ b := hnd.2.2 g0 (by rw [f1]; simp) b (List.mem_of_getElem? hb)
   refine ⟨g0, c0, f1, ?_, by rw [List.length_set]; exact f3, by rw [List.length_set]; exact f4, fun j y hj => ?_, fun j => by rw [World.frozen?_setCell]; exact f6 j⟩
   · rw [List.length_set, Xr.cell_kept (Xr.set_other hgb)]
     exact f2
   · rw [List.getElem?_set] at hj
     by_cases hji : i = j
     · subst hji
       rw [if_pos rfl, if_pos hi] at hj
       cases hj
       exact World.cell?_setCell_same _ _ _ (f5 i l[i] (List.getElem?_eq_getElem hi))
     · rw [if_neg hji] at hj
       rw [World.cell?_setCell_other _ _ _ _ (by intro hh; exact hji (congrArg Addr.off hh))]
       exact f5 j y hj
 · rw [if_neg hk] at hl'
   obtain ⟨g, c', e1, e2, e3, e4, e5, e6⟩ := h.at_ k b' l' hb' hl'
   have hgb : g ≠ b := hnd.2.2 g (by rw [e1]; simp) b (List.mem_of_getElem? hb)
   have hbb : b' ≠ b := fun e => by
    subst e
    have h1 := (List.getElem?_eq_some_iff.1 hb').1
    have h2 := (List.getElem?_eq_some_iff.1 hb).1
    exact hk ((List.getElem?_inj h1 hnd.2.1).1 (hb'.trans hb.symm))
   exact ⟨g, c', e1, (Xr.cell_kept (Xr.set_other hgb) k).trans e2, e3, e4, fun j y hj => (Xr.cell_kept (Xr.set_other hbb) j).trans (e5 j y hj), fun j => by rw [World.frozen?_setCell]; exact e6 j⟩
end
end Go.Proofs.Ytcalcikclcmkaaa
namespace Go.Proofs.Ytcalcikclcmkaaa
open Go.RowKit
set_option linter.unusedVariables false
theorem Mc.set_congr {W1 W2 : World} {b : Nat} (h : W1.heap[b]? = W2.heap[b]?) (o : Nat) (v : Value) : (W1.setCell ⟨b, o, none⟩ v).heap[b]? = (W2.setCell ⟨b, o, none⟩ v).heap[b]? := by
 unfold World.setCell
 simp only [Array.getElem?_modify, if_true, h]
theorem Mc.set_set (W : World) (b o : Nat) (u v : Value) : ((W.setCell ⟨b, o, none⟩ u).setCell ⟨b, o, none⟩ v).heap[b]? = (W.setCell ⟨b, o, none⟩ v).heap[b]? := by
 unfold World.setCell
 simp only [Array.getElem?_modify, if_true]
 cases W.heap[b]? with
 | none => rfl
 | some ob =>
  cases ob <;> simp [Array.setIfInBounds_setIfInBounds]
theorem Mc.set_id {W : World} {b o : Nat} {v : Value} (h : W.cell? ⟨b, o, none⟩ = some v) : (W.setCell ⟨b, o, none⟩ v).heap[b]? = W.heap[b]? := by
 unfold World.cell? at h
 unfold World.setCell
 simp only [Array.getElem?_modify, if_true]
 cases hb : W.heap[b]? with
 | none => rfl
 | some ob =>
  rw [show (⟨b, o, none⟩ : Addr).block = b from rfl, hb] at h
  cases ob with
  | cells c e fr =>
   have h2 : c[o]? = some v := by simpa using h
   have h3 : c.setIfInBounds o v = c := by
    apply Array.ext
    · simp
    · intro i h4 h5
      rw [Array.getElem_setIfInBounds h5]
      split
      · rename_i e
        subst e
        exact (Array.getElem?_eq_some_iff.1 h2).2.symm
      · rfl
   simp [h3]
  | _ => rfl
theorem Mc.ow_mono {w : World} {base base' : Nat} {e : TypeId} {size : Nat} {v : Value} {n : Nat} {xs : List Value} (h : w.ownsRow base e size v n xs) (hb : base' ≤ base) : w.ownsRow base' e size v n xs := by
 obtain ⟨h1, h2⟩ := h
 refine ⟨h1, ?_⟩
 rcases h2 with h2 | ⟨g, cap, cur, a, b, r⟩
 · exact .inl h2
 · exact .inr ⟨g, cap, cur, a, Nat.le_trans hb b, r⟩
structure Mc.Ag (C : Nat → Prop) (tg : Nat → Nat) (W W' : World) : Prop where
 os : W'.os = W.os
 tape : W'.tape = W.tape
 output : W'.output = W.output
 size : W.heap.size ≤ W'.heap.size
 blk : ∀ q, q < W.heap.size → ¬ C (tg q) → W'.heap[q]? = W.heap[q]?
theorem Mc.Ag.below {C : Nat → Prop} {tg : Nat → Nat} {W W' : World} (h : Below W.heap.size W W') : Mc.Ag C tg W W' := ⟨h.os, h.tape, h.output, h.size, fun q hq _ => h.block q hq⟩
theorem Mc.Ag.grown {C : Nat → Prop} {tg : Nat → Nat} {W W2 w6 : World} (h : Mc.Ag C tg W W2) {row : Option Nat} (hg : W2.grownBy w6 row) (hr : ∀ q, row = some q → q < W.heap.size → C (tg q)) : Mc.Ag C tg W w6 :=
 ⟨hg.os.trans h.os, hg.tape.trans h.tape, hg.output.trans h.output, Nat.le_trans h.size hg.size, fun q hq hc => (hg.block q (Nat.lt_of_lt_of_le hq h.size) (fun e => hc (hr q e.symm hq))).trans (h.blk q hq hc)⟩
theorem Mc.Ag.set {C : Nat → Prop} {tg : Nat → Nat} {W W2 : World} (h : Mc.Ag C tg W W2) (b o : Nat) (v : Value) (hb : b < W.heap.size → C (tg b)) : Mc.Ag C tg W (W2.setCell ⟨b, o, none⟩ v) :=
 ⟨h.os, h.tape, h.output, by rw [World.size_setCell]; exact h.size, fun q hq hc => (Xr.set_other (by rintro rfl; exact hc (hb hq))).trans (h.blk q hq hc)⟩
theorem Mc.Ag.trans {C : Nat → Prop} {tg : Nat → Nat} {W W2 W3 : World} (h : Mc.Ag C tg W W2) (h2 : Mc.Ag C tg W2 W3) : Mc.Ag C tg W W3 :=
 ⟨h2.os.trans h.os, h2.tape.trans h.tape, h2.output.trans h.output, Nat.le_trans h.size h2.size, fun q hq hc => (h2.blk q (Nat.lt_of_lt_of_le hq h.size) hc).trans (h.blk q hq hc)⟩
theorem Mc.Ag.mono {C D : Nat → Prop} {tg : Nat → Nat} {W W2 : World} (h : Mc.Ag C tg W W2) (hcd : ∀ k, C k → D k) : Mc.Ag D tg W W2 := ⟨h.os, h.tape, h.output, h.size, fun q hq hc => h.blk q hq (fun e => hc (hcd _ e))⟩
structure Mc.Z where
 gv : Option Nat
 vb : List Nat
 c : Nat
 tv : Value
 kc : List Pg.C
abbrev Mc.X (m : Nat) : Type := Mc.F m × Mc.Z
def Mc.kat {m : Nat} (k : Mc.K m) : Nat := match k with | none => 0 | some ⟨_, _, a⟩ => a
def Pg.C.cells (c : Pg.C) : List Value := [.int .i64 c.k, .int .i64 c.v, .int .i64 c.f, .int .i64 c.ix.k, .int .i64 c.ix.n, .slice c.ix.args.ad c.ix.args.len c.ix.args.cap, .int .i64 c.ex.k, .int .i64 c.ex.n, .slice c.ex.args.ad c.ex.args.len c.ex.args.cap, .slice c.args.ad c.args.len c.args.cap, .slice c.thn.ad c.thn.len c.thn.cap, .slice c.els.ad c.els.len c.els.cap]
def Mc.tC {m : Nat} (k : Mc.K m) (c : Pg.C) : List Value := c.cells ++ [.int .i64 (Mc.kat k : Nat), .bool false, .bool k.isNone]
def Mc.tsC {m : Nat} : List (Mc.K m) → List Pg.C → List Value
 | k :: ks, c :: cs => Mc.tsC ks cs ++ Mc.tC k c
 | _, _ => []
def Mc.fC {m : Nat} (x : Mc.X m) : List Value := [.int .i64 (x.1.fr.num : Nat), .int .i64 (x.1.fn : Nat), .int .i64 x.1.fr.at_, .slice (x.2.gv.map fun g => ⟨g, 0, none⟩) x.1.fr.vs.length x.2.c, x.2.tv]
def Mc.frC {m : Nat} : List (Mc.X m) → List Value
 | [] => []
 | x :: r => Mc.frC r ++ Mc.fC x
theorem Mc.frC_len {m : Nat} : ∀ ms : List (Mc.X m), (Mc.frC ms).length = ms.length * 5
 | [] => rfl
 | x :: r => by
  show (Mc.frC r ++ Mc.fC x).length = _
  rw [List.length_append, Mc.frC_len r, List.length_cons]
  show r.length * 5 + 5 = _
  omega
theorem Mc.tC_len {m : Nat} (k : Mc.K m) (c : Pg.C) : (Mc.tC k c).length = 15 := rfl
theorem Mc.tsC_len {m : Nat} : ∀ (ks : List (Mc.K m)) (cs : List Pg.C), ks.length = cs.length → (Mc.tsC ks cs).length = ks.length * 15
 | [], [], _ => rfl
 | k :: ks, c :: cs, h => by
  show (Mc.tsC ks cs ++ Mc.tC k c).length = _
  rw [List.length_append, Mc.tsC_len ks cs (by simpa using h), List.length_cons, Mc.tC_len]
  omega
 | [], _ :: _, h => by simp at h
 | _ :: _, [], h => by simp at h
def Mc.RK {m : Nat} (w0 : World) (k : Mc.K m) (cc : Pg.C) : Prop := match k with | none => True | some ⟨j, c, _⟩ => Pg.RC w0 m (j + 1) cc c
def Mc.RKs {m : Nat} (w0 : World) : List (Mc.K m) → List Pg.C → Prop
 | [], [] => True
 | k :: ks, c :: cs => Mc.RK w0 k c ∧ Mc.RKs w0 ks cs
 | _, _ => False
theorem Mc.RKs.len {m : Nat} {w0 : World} : ∀ {ks : List (Mc.K m)} {cs : List Pg.C}, Mc.RKs w0 ks cs → ks.length = cs.length
 | [], [], _ => rfl
 | k :: ks, c :: cs, h => by
  have h2 : Mc.RKs w0 ks cs := And.right h
  rw [List.length_cons, List.length_cons, Mc.RKs.len h2]
 | [], _ :: _, h => False.elim h
 | _ :: _, [], h => False.elim h
structure Mc.Fr {m : Nat} (w0 W : World) (tg : Nat → Nat) (d : Nat) (x : Mc.X m) : Prop where
 zf : Xr.Zf W w0.heap.size x.2.gv x.2.vb x.2.c x.1.fr.vs
 tz : ∀ q ∈ x.2.gv.toList ++ x.2.vb, tg q = 10 + 2 * d
 tr : W.ownsRow w0.heap.size 82 15 x.2.tv x.1.ks.length (Mc.tsC x.1.ks x.2.kc)
 tt : ∀ q, x.2.tv.ownBlock = some q → tg q = 11 + 2 * d
 rk : Mc.RKs w0 x.1.ks x.2.kc
def Mc.Frs {m : Nat} (w0 W : World) (tg : Nat → Nat) : List (Mc.X m) → Prop
 | [] => True
 | x :: r => Mc.Fr w0 W tg r.length x ∧ Mc.Frs w0 W tg r
theorem Mc.Fr.ag {m : Nat} {w0 W W' : World} {C : Nat → Prop} {tg tg' : Nat → Nat} {d : Nat} {x : Mc.X m} (h : Mc.Fr w0 W tg d x) (ha : Mc.Ag C tg W W') (h1 : ¬ C (10 + 2 * d)) (h2 : ¬ C (11 + 2 * d)) (ht : ∀ q, q < W.heap.size → 10 + 2 * d ≤ tg q → tg q < 12 + 2 * d → tg' q = tg q) : Mc.Fr w0 W' tg' d x :=
 ⟨h.zf.kept ha.size (fun q hq => ha.blk q (h.zf.ge q hq).2 (by rw [h.tz q hq]; exact h1)), fun q hq => by rw [ht q (h.zf.ge q hq).2 (by rw [h.tz q hq]; omega) (by rw [h.tz q hq]; omega)]; exact h.tz q hq, Xr.ow_kept h.tr (fun q hq => ha.blk q (h.tr.lt q hq).2 (by rw [h.tt q hq]; exact h2)), fun q hq => by rw [ht q (h.tr.lt q hq).2 (by rw [h.tt q hq]; omega) (by rw [h.tt q hq]; omega)]; exact h.tt q hq, h.rk⟩
theorem Mc.Frs.ag {m : Nat} {w0 W W' : World} {C : Nat → Prop} {tg tg' : Nat → Nat} : ∀ {ms : List (Mc.X m)}, Mc.Frs w0 W tg ms → Mc.Ag C tg W W' → (∀ k, 10 ≤ k → k < 10 + 2 * ms.length → ¬ C k) → (∀ q, q < W.heap.size → 10 ≤ tg q → tg q < 10 + 2 * ms.length → tg' q = tg q) → Mc.Frs w0 W' tg' ms
 | [], _, _, _, _ => trivial
 | x :: r, h, ha, hc, ht => by
  rw [List.length_cons] at hc ht
  exact ⟨h.1.ag ha (hc _ (by omega) (by omega)) (hc _ (by omega) (by omega)) (fun q h1 h2 h3 => ht q h1 (by omega) (by omega)), Mc.Frs.ag h.2 ha (fun k h1 h2 => hc k h1 (by omega)) (fun q h1 h2 h3 => ht q h1 h2 (by omega))⟩
structure Mc.B (W : World) (bm : Nat) (fs is : Pg.Sl) (inp : List Int) (fuel bnd : Nat) (s : Xr.S) (rf ev : Value) : Prop where
 c0 : W.cell? ⟨bm, 0, none⟩ = some (.slice fs.ad fs.len fs.cap)
 c1 : W.cell? ⟨bm, 1, none⟩ = some (.slice is.ad is.len is.cap)
 c2 : ∃ k : Nat, W.cell? ⟨bm, 2, none⟩ = some (.int .i64 (k : Nat)) ∧ s.inp = inp.drop k ∧ k ≤ bnd
 c3 : W.cell? ⟨bm, 3, none⟩ = some (.int .i64 (fuel : Nat))
 c4 : ∃ k : Nat, W.cell? ⟨bm, 4, none⟩ = some (.int .i64 (k : Nat)) ∧ k + s.fuel = fuel
 c5 : W.cell? ⟨bm, 5, none⟩ = some (.int .i64 ((s.made + 1 : Nat) : Int))
 c6 : W.cell? ⟨bm, 6, none⟩ = some rf
 c7 : W.cell? ⟨bm, 7, none⟩ = some ev
 c8 : W.cell? ⟨bm, 8, none⟩ = some (.bool s.ended)
 fz : ∀ i, W.frozen? ⟨bm, i, none⟩ = false
theorem Mc.B.kept {W W' : World} {bm : Nat} {fs is : Pg.Sl} {inp : List Int} {fuel bnd : Nat} {s : Xr.S} {rf ev : Value} (h : Mc.B W bm fs is inp fuel bnd s rf ev) (hk : W'.heap[bm]? = W.heap[bm]?) : Mc.B W' bm fs is inp fuel bnd s rf ev := by
 obtain ⟨k2, a2, b2⟩ := h.c2
 obtain ⟨k4, a4, b4⟩ := h.c4
 exact ⟨(Xr.cell_kept hk 0).trans h.c0, (Xr.cell_kept hk 1).trans h.c1, ⟨k2, (Xr.cell_kept hk 2).trans a2, b2⟩, (Xr.cell_kept hk 3).trans h.c3, ⟨k4, (Xr.cell_kept hk 4).trans a4, b4⟩, (Xr.cell_kept hk 5).trans h.c5, (Xr.cell_kept hk 6).trans h.c6, (Xr.cell_kept hk 7).trans h.c7, (Xr.cell_kept hk 8).trans h.c8, fun i => (Xr.frz_kept hk i).trans (h.fz i)⟩
structure Mc.J {m : Nat} (w0 W : World) (hs : List (Nat × Obj)) (tg : Nat → Nat) (bm : Nat) (fs is : Pg.Sl) (inp : List Int) (fuel bnd : Nat) (s : Xr.S) (ms : List (Mc.X m)) (rf ev : Value) : Prop where
 bel : Below w0.heap.size w0 W
 lo : ∀ q, q < w0.heap.size → tg q = 4
 hbm : w0.heap.size ≤ bm
 tb : tg bm = 0
 box : Mc.B W bm fs is inp fuel bnd s rf ev
 evr : W.ownsRow w0.heap.size 50 6 ev s.evs.length (Xr.evC s.evs)
 tev : ∀ q, ev.ownBlock = some q → tg q = 1
 frr : W.ownsRow w0.heap.size 85 5 rf ms.length (Mc.frC ms)
 trf : ∀ q, rf.ownBlock = some q → tg q = 2
 frs : Mc.Frs w0 W tg ms
 kp : ∀ y ∈ hs, W.heap[y.1]? = some y.2 ∧ tg y.1 = 3
section
variable {m : Nat} {w0 W W' : World} {hs : List (Nat × Obj)} {tg : Nat → Nat} {bm : Nat} {fs is : Pg.Sl} {inp : List Int} {fuel bnd : Nat} {s : Xr.S} {ms : List (Mc.X m)} {rf ev : Value}
theorem Mc.J.lt (h : Mc.J w0 W hs tg bm fs is inp fuel bnd s ms rf ev) : bm < W.heap.size := World.block_lt_of_cell? W _ h.box.c0
theorem Mc.J.hlt (h : Mc.J w0 W hs tg bm fs is inp fuel bnd s ms rf ev) {y : Nat × Obj} (hy : y ∈ hs) : y.1 < W.heap.size := (Array.getElem?_eq_some_iff.1 (h.kp y hy).1).1
theorem Mc.J.belAg (h : Mc.J w0 W hs tg bm fs is inp fuel bnd s ms rf ev) {C : Nat → Prop} (ha : Mc.Ag C tg W W') (hc : ¬ C 4) : Below w0.heap.size w0 W' :=
 ⟨ha.os.trans h.bel.os, ha.tape.trans h.bel.tape, ha.output.trans h.bel.output, Nat.le_trans h.bel.size ha.size, fun q hq => (ha.blk q (Nat.lt_of_lt_of_le hq h.bel.size) (by rw [h.lo q hq]; exact hc)).trans (h.bel.block q hq)⟩
theorem Mc.J.below (h : Mc.J w0 W hs tg bm fs is inp fuel bnd s ms rf ev) (hb : Below W.heap.size W W') : Mc.J w0 W' hs tg bm fs is inp fuel bnd s ms rf ev := by
 have ha : Mc.Ag (fun _ => False) tg W W' := Mc.Ag.below hb
 exact ⟨h.belAg ha id, h.lo, h.hbm, h.tb, h.box.kept (hb.block bm h.lt), Xr.ow_kept h.evr (fun q hq => hb.block q (h.evr.lt q hq).2), h.tev, Xr.ow_kept h.frr (fun q hq => hb.block q (h.frr.lt q hq).2), h.trf, h.frs.ag ha (fun _ _ _ => id) (fun _ _ _ _ => rfl), fun y hy => ⟨(hb.block y.1 (h.hlt hy)).trans (h.kp y hy).1, (h.kp y hy).2⟩⟩
theorem Mc.J.own (h : Mc.J w0 W hs tg bm fs is inp fuel bnd s ms rf ev) (b : Nat) (o : Obj) (hb : W.heap[b]? = some o) (hn : ∀ q, q < W.heap.size → q ≠ b → True) (W0 : World) (hJ : Mc.J w0 W0 hs tg bm fs is inp fuel bnd s ms rf ev) (hB : Below W0.heap.size W0 W) (hb0 : W0.heap.size ≤ b) : Mc.J w0 W ((b, o) :: hs) (fun q => if q = b then 3 else tg q) bm fs is inp fuel bnd s ms rf ev := by
 have ha : Mc.Ag (fun _ => False) tg W0 W := Mc.Ag.below hB
 have ht : ∀ q, q < W0.heap.size → (if q = b then 3 else tg q) = tg q := fun q hq => if_neg (by omega)
 have h0 := hJ.bel.size
 refine ⟨h.bel, fun q hq => by (try dsimp only); rw [ht q (by omega)]; exact hJ.lo q hq, hJ.hbm, by (try dsimp only); rw [ht bm hJ.lt]; exact hJ.tb, h.box, h.evr, fun q hq => by (try dsimp only); rw [ht q (hJ.evr.lt q hq).2]; exact hJ.tev q hq, h.frr, fun q hq => by (try dsimp only); rw [ht q (hJ.frr.lt q hq).2]; exact hJ.trf q hq, hJ.frs.ag ha (fun _ _ _ => id) (fun q hq _ _ => ht q hq), fun y hy => ?_⟩
 rcases List.mem_cons.1 hy with rfl | hy
 · exact ⟨hb, if_pos rfl⟩
 · exact ⟨(h.kp y hy).1, by (try dsimp only); rw [ht y.1 (hJ.hlt hy)]; exact (hJ.kp y hy).2⟩
theorem Mc.J.box1 (h : Mc.J w0 W hs tg bm fs is inp fuel bnd s ms rf ev) (o : Obj) : Mc.J w0 (W.alloc o) ((W.heap.size, o) :: hs) (fun q => if q = W.heap.size then 3 else tg q) bm fs is inp fuel bnd s ms rf ev := by
 have hb := (Below.refl W.heap.size W).alloc (Nat.le_refl _) o
 exact (h.below hb).own W.heap.size o (heap_alloc_new W o) (fun _ _ _ => trivial) W h hb (Nat.le_refl _)
theorem Mc.J.drop {y : Nat × Obj} (h : Mc.J w0 W (y :: hs) tg bm fs is inp fuel bnd s ms rf ev) : Mc.J w0 W hs tg bm fs is inp fuel bnd s ms rf ev :=
 ⟨h.bel, h.lo, h.hbm, h.tb, h.box, h.evr, h.tev, h.frr, h.trf, h.frs, fun z hz => h.kp z (List.mem_cons_of_mem _ hz)⟩
theorem Mc.J.evForm (h : Mc.J w0 W hs tg bm fs is inp fuel bnd s ms rf ev) : ∃ a c, ev = .slice a s.evs.length c := by
 rcases h.evr.2 with ⟨h1, h2⟩ | ⟨g, cap, cur, hv, _⟩
 · exact ⟨none, 0, by rw [h2]; exact h1⟩
 · exact ⟨_, _, hv⟩
theorem Mc.J.rfForm {x : Mc.X m} {r : List (Mc.X m)} (h : Mc.J w0 W hs tg bm fs is inp fuel bnd s (x :: r) rf ev) : ∃ g c, rf = .slice (some ⟨g, 0, none⟩) (r.length + 1) c := by
 rcases h.frr.2 with ⟨h1, h2⟩ | ⟨g, cap, cur, hv, _⟩
 · simp at h2
 · exact ⟨g, cap, hv⟩
theorem Mc.J.top {x : Mc.X m} {r : List (Mc.X m)} {g c : Nat} (h : Mc.J w0 W hs tg bm fs is inp fuel bnd s (x :: r) (.slice (some ⟨g, 0, none⟩) (r.length + 1) c) ev) (j : Nat) (v : Value) (hj : (Mc.fC x)[j]? = some v) : W.cell? ⟨g, r.length * 5 + j, none⟩ = some v := by
 have hj5 : j < 5 := (List.getElem?_eq_some_iff.1 hj).1
 have h1 := h.frr.cellAt (r.length * 5 + j) (by show r.length * 5 + j < (r.length + 1) * 5; omega)
 rw [h1]
 show (Mc.frC r ++ Mc.fC x)[r.length * 5 + j]? = _
 rw [List.getElem?_append_right (by rw [Mc.frC_len]; omega), Mc.frC_len, Nat.add_sub_cancel_left]
 exact hj
theorem Mc.J.top2 {x y : Mc.X m} {r : List (Mc.X m)} {g c : Nat} (h : Mc.J w0 W hs tg bm fs is inp fuel bnd s (x :: y :: r) (.slice (some ⟨g, 0, none⟩) (r.length + 2) c) ev) (j : Nat) (v : Value) (hj : (Mc.fC y)[j]? = some v) : W.cell? ⟨g, r.length * 5 + j, none⟩ = some v := by
 have hj5 : j < 5 := (List.getElem?_eq_some_iff.1 hj).1
 have h1 := h.frr.cellAt (r.length * 5 + j) (by show r.length * 5 + j < (r.length + 2) * 5; omega)
 rw [h1]
 show ((Mc.frC r ++ Mc.fC y) ++ Mc.fC x)[r.length * 5 + j]? = _
 rw [List.append_assoc, List.getElem?_append_right (by rw [Mc.frC_len]; omega), Mc.frC_len, Nat.add_sub_cancel_left, List.getElem?_append_left (by exact hj5)]
 exact hj
theorem Mc.J.topFz {x : Mc.X m} {r : List (Mc.X m)} {g c : Nat} (h : Mc.J w0 W hs tg bm fs is inp fuel bnd s (x :: r) (.slice (some ⟨g, 0, none⟩) (r.length + 1) c) ev) (j : Nat) : W.frozen? ⟨g, j, none⟩ = false := h.frr.frozenAt j
theorem Mc.B.other {W : World} {bm i : Nat} {v : Value} (j : Nat) (hj : j ≠ i) : (W.setCell ⟨bm, i, none⟩ v).cell? ⟨bm, j, none⟩ = W.cell? ⟨bm, j, none⟩ :=
 World.cell?_setCell_other _ _ _ _ (by intro hh; exact hj (congrArg Addr.off hh).symm)
theorem Mc.J.told {W2 w6 : World} (h : Mc.J w0 W hs tg bm fs is inp fuel bnd s ms rf ev) (hb : Below W.heap.size W W2) (hg : W2.grownBy w6 ev.ownBlock) (e : Ev) (g c : Nat)
  (ho : w6.ownsRow w0.heap.size 50 6 (.slice (some ⟨g, 0, none⟩) (s.evs.length + 1) c) (s.evs.length + 1) (Xr.evC s.evs ++ e.cells)) (hat : ev.ownBlock = some g ∨ g = W2.heap.size) :
  Mc.J w0 (w6.setCell ⟨bm, 7, none⟩ (.slice (some ⟨g, 0, none⟩) (s.evs.length + 1) c)) hs (fun q => if q = g then 1 else tg q) bm fs is inp fuel bnd { s with evs := s.evs ++ [e] } ms rf (.slice (some ⟨g, 0, none⟩) (s.evs.length + 1) c) := by
 have ha : Mc.Ag (fun k => k = 0 ∨ k = 1) tg W (w6.setCell ⟨bm, 7, none⟩ (.slice (some ⟨g, 0, none⟩) (s.evs.length + 1) c)) := (((Mc.Ag.below hb).grown hg (fun q hq _ => .inr (h.tev q hq))).set bm 7 _ (fun _ => .inl h.tb))
 have hbs := hb.size
 have hgt : ∀ q, q < W.heap.size → tg q ≠ 1 → (if q = g then 1 else tg q) = tg q := fun q h1 h2 => if_neg (by
  rintro rfl
  rcases hat with e | e
  · exact h2 (h.tev q e)
  · omega)
 have hgb : g ≠ bm := by
  rintro rfl
  rcases hat with e | e
  · have := h.tev g e; rw [h.tb] at this; cases this
  · have := h.lt; omega
 have h0 := h.bel.size
 have kb : w6.heap[bm]? = W.heap[bm]? := (hg.block bm (Nat.lt_of_lt_of_le h.lt hbs) (fun e => by have := h.tev bm e.symm; rw [h.tb] at this; cases this)).trans (hb.block bm h.lt)
 obtain ⟨k2, a2, b2, b2'⟩ := h.box.c2
 obtain ⟨k4, a4, b4⟩ := h.box.c4
 have o := fun (j : Nat) (hj : j ≠ 7) => (Mc.B.other (W := w6) (bm := bm) (i := 7) (v := .slice (some ⟨g, 0, none⟩) (s.evs.length + 1) c) j hj).trans (Xr.cell_kept kb j)
 refine ⟨h.belAg ha (by omega), fun q hq => by (try dsimp only); rw [hgt q (by omega) (by rw [h.lo q hq]; omega)]; exact h.lo q hq, h.hbm, by (try dsimp only); rw [if_neg hgb.symm]; exact h.tb, ⟨(o 0 (by omega)).trans h.box.c0, (o 1 (by omega)).trans h.box.c1, ⟨k2, (o 2 (by omega)).trans a2, b2, b2'⟩, (o 3 (by omega)).trans h.box.c3, ⟨k4, (o 4 (by omega)).trans a4, b4⟩, (o 5 (by omega)).trans h.box.c5, (o 6 (by omega)).trans h.box.c6, World.cell?_setCell_same _ _ _ ((Xr.cell_kept kb 7).trans h.box.c7), (o 8 (by omega)).trans h.box.c8, fun i => by rw [World.frozen?_setCell]; exact (Xr.frz_kept kb i).trans (h.box.fz i)⟩, ?_, ?_, ?_, ?_, ?_, ?_⟩
 · show World.ownsRow _ _ _ _ _ (s.evs ++ [e]).length (Xr.evC (s.evs ++ [e]))
   rw [Xr.evC_snoc, List.length_append]
   refine Xr.ow_kept ho (fun q hq => ?_)
   cases hq
   exact Xr.set_other hgb
 · intro q hq
   cases hq
   exact if_pos rfl
 · exact Xr.ow_kept h.frr (fun q hq => ha.blk q (h.frr.lt q hq).2 (by rw [h.trf q hq]; omega))
 · intro q hq
   try dsimp only
   rw [hgt q (h.frr.lt q hq).2 (by rw [h.trf q hq]; omega)]
   exact h.trf q hq
 · exact h.frs.ag ha (fun k h1 h2 => by omega) (fun q h1 h2 h3 => hgt q h1 (by omega))
 · intro y hy
   refine ⟨(ha.blk y.1 (h.hlt hy) (by rw [(h.kp y hy).2]; omega)).trans (h.kp y hy).1, ?_⟩
   try dsimp only
   rw [hgt y.1 (h.hlt hy) (by rw [(h.kp y hy).2]; omega)]
   exact (h.kp y hy).2
theorem Mc.J.setBox (h : Mc.J w0 W hs tg bm fs is inp fuel bnd s ms rf ev) (i : Nat) (v : Value) {s' : Xr.S} (hs' : s'.evs = s.evs) (hbx : Mc.B (W.setCell ⟨bm, i, none⟩ v) bm fs is inp fuel bnd s' rf ev) : Mc.J w0 (W.setCell ⟨bm, i, none⟩ v) hs tg bm fs is inp fuel bnd s' ms rf ev := by
 have ha : Mc.Ag (fun k => k = 0) tg W (W.setCell ⟨bm, i, none⟩ v) := (Mc.Ag.below (Below.refl _ _)).set bm i v (fun _ => h.tb)
 exact ⟨h.belAg ha (by omega), h.lo, h.hbm, h.tb, hbx, by rw [hs']; exact Xr.ow_kept h.evr (fun q hq => ha.blk q (h.evr.lt q hq).2 (by rw [h.tev q hq]; omega)), h.tev, Xr.ow_kept h.frr (fun q hq => ha.blk q (h.frr.lt q hq).2 (by rw [h.trf q hq]; omega)), h.trf, h.frs.ag ha (fun k h1 h2 => by omega) (fun _ _ _ _ => rfl), fun y hy => ⟨(ha.blk y.1 (h.hlt hy) (by rw [(h.kp y hy).2]; omega)).trans (h.kp y hy).1, (h.kp y hy).2⟩⟩
theorem Mc.J.setFuel (h : Mc.J w0 W hs tg bm fs is inp fuel bnd s ms rf ev) (k : Nat) (hk : W.cell? ⟨bm, 4, none⟩ = some (.int .i64 (k : Nat))) (hf : s.fuel ≠ 0) : Mc.J w0 (W.setCell ⟨bm, 4, none⟩ (.int .i64 ((k + 1 : Nat) : Int))) hs tg bm fs is inp fuel bnd { s with fuel := s.fuel - 1 } ms rf ev := by
 obtain ⟨k2, a2, b2⟩ := h.box.c2
 obtain ⟨k4, a4, b4⟩ := h.box.c4
 have hkk : k4 = k := by
  rw [hk] at a4
  have := Value.int.inj (Option.some.inj a4)
  omega
 subst hkk
 exact h.setBox 4 _ rfl ⟨(Mc.B.other 0 (by omega)).trans h.box.c0, (Mc.B.other 1 (by omega)).trans h.box.c1, ⟨k2, (Mc.B.other 2 (by omega)).trans a2, b2⟩, (Mc.B.other 3 (by omega)).trans h.box.c3, ⟨k4 + 1, World.cell?_setCell_same _ _ _ a4, by show k4 + 1 + (s.fuel - 1) = fuel; omega⟩, (Mc.B.other 5 (by omega)).trans h.box.c5, (Mc.B.other 6 (by omega)).trans h.box.c6, (Mc.B.other 7 (by omega)).trans h.box.c7, (Mc.B.other 8 (by omega)).trans h.box.c8, fun i => by rw [World.frozen?_setCell]; exact h.box.fz i⟩
theorem Mc.J.setMade (h : Mc.J w0 W hs tg bm fs is inp fuel bnd s ms rf ev) : Mc.J w0 (W.setCell ⟨bm, 5, none⟩ (.int .i64 ((s.made + 1 + 1 : Nat) : Int))) hs tg bm fs is inp fuel bnd { s with made := s.made + 1 } ms rf ev := by
 obtain ⟨k2, a2, b2⟩ := h.box.c2
 obtain ⟨k4, a4, b4⟩ := h.box.c4
 exact h.setBox 5 _ rfl ⟨(Mc.B.other 0 (by omega)).trans h.box.c0, (Mc.B.other 1 (by omega)).trans h.box.c1, ⟨k2, (Mc.B.other 2 (by omega)).trans a2, b2⟩, (Mc.B.other 3 (by omega)).trans h.box.c3, ⟨k4, (Mc.B.other 4 (by omega)).trans a4, b4⟩, World.cell?_setCell_same _ _ _ h.box.c5, (Mc.B.other 6 (by omega)).trans h.box.c6, (Mc.B.other 7 (by omega)).trans h.box.c7, (Mc.B.other 8 (by omega)).trans h.box.c8, fun i => by rw [World.frozen?_setCell]; exact h.box.fz i⟩
theorem Mc.J.setTaken (h : Mc.J w0 W hs tg bm fs is inp fuel bnd s ms rf ev) (k : Nat) (hk : W.cell? ⟨bm, 2, none⟩ = some (.int .i64 (k : Nat))) : Mc.J w0 (W.setCell ⟨bm, 2, none⟩ (.int .i64 ((k + 1 : Nat) : Int))) hs tg bm fs is inp fuel (bnd + 1) { s with inp := s.inp.tail } ms rf ev := by
 obtain ⟨k2, a2, b2, b2'⟩ := h.box.c2
 obtain ⟨k4, a4, b4⟩ := h.box.c4
 have hkk : k2 = k := by
  rw [hk] at a2
  have := Value.int.inj (Option.some.inj a2)
  omega
 subst hkk
 have ha : Mc.Ag (fun k => k = 0) tg W (W.setCell ⟨bm, 2, none⟩ (.int .i64 ((k2 + 1 : Nat) : Int))) := (Mc.Ag.below (Below.refl _ _)).set bm _ _ (fun _ => h.tb)
 exact ⟨h.belAg ha (by omega), h.lo, h.hbm, h.tb, ⟨(Mc.B.other 0 (by omega)).trans h.box.c0, (Mc.B.other 1 (by omega)).trans h.box.c1, ⟨k2 + 1, World.cell?_setCell_same _ _ _ a2, by show s.inp.tail = _; rw [b2, List.tail_drop], by omega⟩, (Mc.B.other 3 (by omega)).trans h.box.c3, ⟨k4, (Mc.B.other 4 (by omega)).trans a4, b4⟩, (Mc.B.other 5 (by omega)).trans h.box.c5, (Mc.B.other 6 (by omega)).trans h.box.c6, (Mc.B.other 7 (by omega)).trans h.box.c7, (Mc.B.other 8 (by omega)).trans h.box.c8, fun i => by rw [World.frozen?_setCell]; exact h.box.fz i⟩, Xr.ow_kept h.evr (fun q hq => ha.blk q (h.evr.lt q hq).2 (by rw [h.tev q hq]; omega)), h.tev, Xr.ow_kept h.frr (fun q hq => ha.blk q (h.frr.lt q hq).2 (by rw [h.trf q hq]; omega)), h.trf, h.frs.ag ha (fun k h1 h2 => by omega) (fun _ _ _ _ => rfl), fun y hy => ⟨(ha.blk y.1 (h.hlt hy) (by rw [(h.kp y hy).2]; omega)).trans (h.kp y hy).1, (h.kp y hy).2⟩⟩
theorem Mc.J.more (h : Mc.J w0 W hs tg bm fs is inp fuel bnd s ms rf ev) {bnd' : Nat} (hb : bnd ≤ bnd') : Mc.J w0 W hs tg bm fs is inp fuel bnd' s ms rf ev := by
 obtain ⟨k2, a2, b2, b2'⟩ := h.box.c2
 exact ⟨h.bel, h.lo, h.hbm, h.tb, ⟨h.box.c0, h.box.c1, ⟨k2, a2, b2, by omega⟩, h.box.c3, h.box.c4, h.box.c5, h.box.c6, h.box.c7, h.box.c8, h.box.fz⟩, h.evr, h.tev, h.frr, h.trf, h.frs, h.kp⟩
theorem Mc.J.sub (h : Mc.J w0 W hs tg bm fs is inp fuel bnd s ms rf ev) {hs' : List (Nat × Obj)} (hh : ∀ y ∈ hs', y ∈ hs) : Mc.J w0 W hs' tg bm fs is inp fuel bnd s ms rf ev :=
 ⟨h.bel, h.lo, h.hbm, h.tb, h.box, h.evr, h.tev, h.frr, h.trf, h.frs, fun z hz => h.kp z (hh z hz)⟩
theorem Mc.J.setAt {x : Mc.X m} {r : List (Mc.X m)} {g c : Nat} (h : Mc.J w0 W hs tg bm fs is inp fuel bnd s (x :: r) (.slice (some ⟨g, 0, none⟩) (r.length + 1) c) ev) (a : Int) :
  Mc.J w0 (W.setCell ⟨g, r.length * 5 + 2, none⟩ (.int .i64 a)) hs tg bm fs is inp fuel bnd s ((⟨{ x.1.fr with at_ := a }, x.1.fn, x.1.ks⟩, x.2) :: r) (.slice (some ⟨g, 0, none⟩) (r.length + 1) c) ev := by
 have hg2 : tg g = 2 := h.trf g rfl
 have ha : Mc.Ag (fun k => k = 2) tg W (W.setCell ⟨g, r.length * 5 + 2, none⟩ (.int .i64 a)) := (Mc.Ag.below (Below.refl _ _)).set g _ _ (fun _ => hg2)
 refine ⟨h.belAg ha (by omega), h.lo, h.hbm, h.tb, h.box.kept (ha.blk bm h.lt (by rw [h.tb]; omega)), Xr.ow_kept h.evr (fun q hq => ha.blk q (h.evr.lt q hq).2 (by rw [h.tev q hq]; omega)), h.tev, ?_, h.trf, ?_, fun y hy => ⟨(ha.blk y.1 (h.hlt hy) (by rw [(h.kp y hy).2]; omega)).trans (h.kp y hy).1, (h.kp y hy).2⟩⟩
 · have h1 := (h.frr.stored (r.length * 5 + 2) (.int .i64 a)).1
   have h2 : (Mc.frC (x :: r)).set (r.length * 5 + 2) (.int .i64 a) = Mc.frC ((⟨{ x.1.fr with at_ := a }, x.1.fn, x.1.ks⟩, x.2) :: r) := by
    show (Mc.frC r ++ Mc.fC x).set _ _ = Mc.frC r ++ _
    rw [List.set_append_right _ _ (by rw [Mc.frC_len]; omega), Mc.frC_len, Nat.add_sub_cancel_left]
    rfl
   rw [h2] at h1
   exact h1
 · obtain ⟨h1, h2⟩ := h.frs
   have h1' := h1.ag (tg' := tg) ha (by omega) (by omega) (fun _ _ _ _ => rfl)
   exact ⟨⟨h1'.zf, h1'.tz, h1'.tr, h1'.tt, h1'.rk⟩, h2.ag ha (fun k h3 h4 => by omega) (fun _ _ _ _ => rfl)⟩
theorem Mc.J.setKs {x : Mc.X m} {r : List (Mc.X m)} {g c : Nat} (h : Mc.J w0 W hs tg bm fs is inp fuel bnd s (x :: r) (.slice (some ⟨g, 0, none⟩) (r.length + 1) c) ev) (tv : Value) (ks : List (Mc.K m)) (kc : List Pg.C)
  (ha : Mc.Ag (fun k => k = 2 ∨ k = 11 + 2 * r.length) tg W W') (hg : W'.heap[g]? = (W.setCell ⟨g, r.length * 5 + 4, none⟩ tv).heap[g]?) (ho : W'.ownsRow w0.heap.size 82 15 tv ks.length (Mc.tsC ks kc)) (hat : ∀ q, tv.ownBlock = some q → (q < W.heap.size ∧ tg q = 11 + 2 * r.length) ∨ W.heap.size ≤ q) (hrk : Mc.RKs w0 ks kc) :
  Mc.J w0 W' hs (fun q => if tv.ownBlock = some q then 11 + 2 * r.length else tg q) bm fs is inp fuel bnd s ((⟨x.1.fr, x.1.fn, ks⟩, ⟨x.2.gv, x.2.vb, x.2.c, tv, kc⟩) :: r) (.slice (some ⟨g, 0, none⟩) (r.length + 1) c) ev := by
 have hgt : ∀ q, q < W.heap.size → tg q ≠ 11 + 2 * r.length → (if tv.ownBlock = some q then 11 + 2 * r.length else tg q) = tg q := fun q h1 h2 => if_neg (fun e => by
  rcases hat q e with h3 | h3
  · exact h2 h3.2
  · omega)
 have h0 := h.bel.size
 obtain ⟨h1, h2⟩ := h.frs
 refine ⟨h.belAg ha (by omega), fun q hq => by (try dsimp only); rw [hgt q (by omega) (by rw [h.lo q hq]; omega)]; exact h.lo q hq, h.hbm, by (try dsimp only); rw [hgt bm h.lt (by rw [h.tb]; omega)]; exact h.tb, h.box.kept (ha.blk bm h.lt (by rw [h.tb]; omega)), Xr.ow_kept h.evr (fun q hq => ha.blk q (h.evr.lt q hq).2 (by rw [h.tev q hq]; omega)), fun q hq => by (try dsimp only); rw [hgt q (h.evr.lt q hq).2 (by rw [h.tev q hq]; omega)]; exact h.tev q hq, ?_, fun q hq => by (try dsimp only); rw [hgt q (h.frr.lt q hq).2 (by rw [h.trf q hq]; omega)]; exact h.trf q hq, ?_, fun y hy => ⟨(ha.blk y.1 (h.hlt hy) (by rw [(h.kp y hy).2]; omega)).trans (h.kp y hy).1, by (try dsimp only); rw [hgt y.1 (h.hlt hy) (by rw [(h.kp y hy).2]; omega)]; exact (h.kp y hy).2⟩⟩
 · have h3 := (h.frr.stored (r.length * 5 + 4) tv).1
   have h4 : (Mc.frC (x :: r)).set (r.length * 5 + 4) tv = Mc.frC ((⟨x.1.fr, x.1.fn, ks⟩, ⟨x.2.gv, x.2.vb, x.2.c, tv, kc⟩) :: r) := by
    show (Mc.frC r ++ Mc.fC x).set _ _ = Mc.frC r ++ _
    rw [List.set_append_right _ _ (by rw [Mc.frC_len]; omega), Mc.frC_len, Nat.add_sub_cancel_left]
    rfl
   rw [h4] at h3
   exact Xr.ow_kept h3 (fun q hq => by cases hq; exact hg)
 · refine ⟨⟨h1.zf.kept ha.size (fun q hq => ha.blk q (h1.zf.ge q hq).2 (by rw [h1.tz q hq]; omega)), fun q hq => ?_, ho, fun q hq => if_pos hq, hrk⟩, h2.ag ha (fun k h3 h4 => by omega) (fun q h3 h4 h5 => hgt q h3 (by omega))⟩
   try dsimp only
   rw [hgt q (h1.zf.ge q hq).2 (by rw [h1.tz q hq]; omega)]
   exact h1.tz q hq
theorem Mc.J.setVar {x : Mc.X m} {r : List (Mc.X m)} (h : Mc.J w0 W hs tg bm fs is inp fuel bnd s (x :: r) rf ev) {v b i : Nat} {l : List Int} (hv : x.1.fr.vs[v]? = some l) (hb : x.2.vb[v]? = some b) (hi : i < l.length) (z : Int) :
  Mc.J w0 (W.setCell ⟨b, i, none⟩ (.int .i64 z)) hs tg bm fs is inp fuel bnd s ((⟨{ x.1.fr with vs := Xr.upd x.1.fr.vs v i z }, x.1.fn, x.1.ks⟩, x.2) :: r) rf ev := by
 obtain ⟨h1, h2⟩ := h.frs
 have hbt : tg b = 10 + 2 * r.length := h1.tz b (List.mem_append_right _ (List.mem_of_getElem? hb))
 have ha : Mc.Ag (fun k => k = 10 + 2 * r.length) tg W (W.setCell ⟨b, i, none⟩ (.int .i64 z)) := (Mc.Ag.below (Below.refl _ _)).set b _ _ (fun _ => hbt)
 refine ⟨h.belAg ha (by omega), h.lo, h.hbm, h.tb, h.box.kept (ha.blk bm h.lt (by rw [h.tb]; omega)), Xr.ow_kept h.evr (fun q hq => ha.blk q (h.evr.lt q hq).2 (by rw [h.tev q hq]; omega)), h.tev, ?_, h.trf, ⟨⟨h1.zf.set hv hb hi z, h1.tz, Xr.ow_kept h1.tr (fun q hq => ha.blk q (h1.tr.lt q hq).2 (by rw [h1.tt q hq]; omega)), h1.tt, h1.rk⟩, h2.ag ha (fun k h3 h4 => by omega) (fun _ _ _ _ => rfl)⟩, fun y hy => ⟨(ha.blk y.1 (h.hlt hy) (by rw [(h.kp y hy).2]; omega)).trans (h.kp y hy).1, (h.kp y hy).2⟩⟩
 have h3 : Mc.frC ((⟨{ x.1.fr with vs := Xr.upd x.1.fr.vs v i z }, x.1.fn, x.1.ks⟩, x.2) :: r) = Mc.frC (x :: r) := by
  show Mc.frC r ++ _ = Mc.frC r ++ Mc.fC x
  unfold Mc.fC
  dsimp only
  rw [Xr.upd_len]
 rw [h3, List.length_cons]
 exact Xr.ow_kept h.frr (fun q hq => ha.blk q (h.frr.lt q hq).2 (by rw [h.trf q hq]; omega))
structure Mc.O (w0 W : World) (bm : Nat) (evs : List Ev) (ev : Value) : Prop where
 bel : Below w0.heap.size w0 W
 c7 : W.cell? ⟨bm, 7, none⟩ = some ev
 c8 : W.cell? ⟨bm, 8, none⟩ = some (.bool true)
 evr : W.ownsRow w0.heap.size 50 6 ev evs.length (Xr.evC evs)
theorem Mc.O.below {evs : List Ev} (h : Mc.O w0 W bm evs ev) (hb : Below W.heap.size W W') : Mc.O w0 W' bm evs ev := by
 have hl : bm < W.heap.size := World.block_lt_of_cell? W _ h.c7
 exact ⟨h.bel.trans (hb.mono h.bel.size), (hb.cell (p := ⟨bm, 7, none⟩) hl).trans h.c7, (hb.cell (p := ⟨bm, 8, none⟩) hl).trans h.c8, Xr.ow_kept h.evr (fun q hq => hb.block q (h.evr.lt q hq).2)⟩
theorem Mc.J.over (h : Mc.J w0 W hs tg bm fs is inp fuel bnd s ms rf ev) : Mc.O w0 (W.setCell ⟨bm, 8, none⟩ (.bool true)) bm s.evs ev := by
 have ha : Mc.Ag (fun k => k = 0) tg W (W.setCell ⟨bm, 8, none⟩ (.bool true)) := (Mc.Ag.below (Below.refl _ _)).set bm _ _ (fun _ => h.tb)
 exact ⟨h.belAg ha (by omega), (Mc.B.other 7 (by omega)).trans h.box.c7, World.cell?_setCell_same _ _ _ h.box.c8, Xr.ow_kept h.evr (fun q hq => ha.blk q (h.evr.lt q hq).2 (by rw [h.tev q hq]; omega))⟩
theorem Mc.J.popF {x y : Mc.X m} {r : List (Mc.X m)} {g c : Nat} (h : Mc.J w0 W hs tg bm fs is inp fuel bnd s (x :: y :: r) (.slice (some ⟨g, 0, none⟩) (r.length + 2) c) ev) :
  Mc.J w0 (W.setCell ⟨bm, 6, none⟩ (.slice (some ⟨g, 0, none⟩) (r.length + 1) c)) hs tg bm fs is inp fuel bnd s (y :: r) (.slice (some ⟨g, 0, none⟩) (r.length + 1) c) ev := by
 have ha : Mc.Ag (fun k => k = 0) tg W (W.setCell ⟨bm, 6, none⟩ (.slice (some ⟨g, 0, none⟩) (r.length + 1) c)) := (Mc.Ag.below (Below.refl _ _)).set bm _ _ (fun _ => h.tb)
 obtain ⟨k2, a2, b2⟩ := h.box.c2
 obtain ⟨k4, a4, b4⟩ := h.box.c4
 refine ⟨h.belAg ha (by omega), h.lo, h.hbm, h.tb, ⟨(Mc.B.other 0 (by omega)).trans h.box.c0, (Mc.B.other 1 (by omega)).trans h.box.c1, ⟨k2, (Mc.B.other 2 (by omega)).trans a2, b2⟩, (Mc.B.other 3 (by omega)).trans h.box.c3, ⟨k4, (Mc.B.other 4 (by omega)).trans a4, b4⟩, (Mc.B.other 5 (by omega)).trans h.box.c5, World.cell?_setCell_same _ _ _ h.box.c6, (Mc.B.other 7 (by omega)).trans h.box.c7, (Mc.B.other 8 (by omega)).trans h.box.c8, fun i => by rw [World.frozen?_setCell]; exact h.box.fz i⟩, Xr.ow_kept h.evr (fun q hq => ha.blk q (h.evr.lt q hq).2 (by rw [h.tev q hq]; omega)), h.tev, ?_, h.trf, ?_, fun y hy => ⟨(ha.blk y.1 (h.hlt hy) (by rw [(h.kp y hy).2]; omega)).trans (h.kp y hy).1, (h.kp y hy).2⟩⟩
 · have h1 : W.ownsRow w0.heap.size 85 5 (.slice (some ⟨g, 0, none⟩) (r.length + 1) c) (r.length + 1) (Mc.frC (y :: r)) := by
    rcases h.frr.2 with ⟨h1, h2⟩ | ⟨g', cap, cur, hv, hg, hh, hc, hm, hz, ht⟩
    · simp at h2
    · have hv2 : g = g' ∧ c = cap := by
       have hv3 : Value.slice (some ⟨g, 0, none⟩) (r.length + 2) c = Value.slice (some ⟨g', 0, none⟩) (r.length + 2) cap := hv
       simp only [Value.slice.injEq, Option.some.injEq, Addr.mk.injEq, and_true, true_and] at hv3
       exact hv3
      obtain ⟨rfl, rfl⟩ := hv2
      have hc2 : r.length + 2 ≤ c := hc
      have h3 : (Mc.frC (y :: r)).length = (r.length + 1) * 5 := Mc.frC_len (y :: r)
      refine ⟨h3, .inr ⟨g, c, cur, rfl, hg, hh, by omega, hm, hz, ?_⟩⟩
      have h4 : cur.toList.take ((r.length + 2) * 5) = Mc.frC (y :: r) ++ Mc.fC x := ht
      have h5 := congrArg (List.take ((r.length + 1) * 5)) h4
      rw [List.take_take, Nat.min_eq_left (by omega), List.take_append_of_le_length (by omega)] at h5
      rw [h5, ← h3, List.take_length]
   exact Xr.ow_kept h1 (fun q hq => ha.blk q (h1.lt q hq).2 (by rw [h.trf q hq]; omega))
 · exact h.frs.2.ag ha (fun k h3 h4 => by omega) (fun _ _ _ _ => rfl)
theorem Mc.J.pushF {W1 w6 : World} (h : Mc.J w0 W1 hs tg bm fs is inp fuel bnd s ms rf ev) (ha0 : Mc.Ag (fun k => k = 0) tg W1 W) {s' : Xr.S} (hs' : s'.evs = s.evs) (hbx : Mc.B W bm fs is inp fuel bnd s' rf ev)
  (x : Mc.X m) (hzf : Xr.Zf W W1.heap.size x.2.gv x.2.vb x.2.c x.1.fr.vs) (htr : W.ownsRow W1.heap.size 82 15 x.2.tv x.1.ks.length (Mc.tsC x.1.ks x.2.kc)) (hap : ∀ q, x.2.tv.ownBlock = some q → q ∉ x.2.gv.toList ++ x.2.vb) (hrk : Mc.RKs w0 x.1.ks x.2.kc)
  (hg : W.grownBy w6 rf.ownBlock) (g c : Nat) (ho : w6.ownsRow w0.heap.size 85 5 (.slice (some ⟨g, 0, none⟩) (ms.length + 1) c) (ms.length + 1) (Mc.frC ms ++ Mc.fC x)) (hat : rf.ownBlock = some g ∨ W.heap.size ≤ g) :
  ∃ tg', Mc.J w0 (w6.setCell ⟨bm, 6, none⟩ (.slice (some ⟨g, 0, none⟩) (ms.length + 1) c)) hs tg' bm fs is inp fuel bnd s' (x :: ms) (.slice (some ⟨g, 0, none⟩) (ms.length + 1) c) ev := by
 have ha : Mc.Ag (fun k => k = 0 ∨ k = 2) tg W1 (w6.setCell ⟨bm, 6, none⟩ (.slice (some ⟨g, 0, none⟩) (ms.length + 1) c)) := ((ha0.mono (fun k hk => .inl hk)).grown hg (fun q hq _ => .inr (h.trf q hq))).set bm _ _ (fun _ => .inl h.tb)
 have h10 := ha0.size
 have h0 := h.bel.size
 have hgl : g < W1.heap.size ∧ tg g = 2 ∨ W.heap.size ≤ g := by
  rcases hat with e | e
  · exact .inl ⟨(h.frr.lt g e).2, h.trf g e⟩
  · exact .inr e
 have hgb : g ≠ bm := by
  rintro rfl
  rcases hgl with e | e
  · have := h.tb; omega
  · have := h.lt; omega
 have kb : w6.heap[bm]? = W.heap[bm]? := hg.block bm (by have := h.lt; omega) (fun e => by have := h.trf bm e.symm; rw [h.tb] at this; cases this)
 have knew : ∀ q, W1.heap.size ≤ q → q < W.heap.size → (w6.setCell ⟨bm, 6, none⟩ (.slice (some ⟨g, 0, none⟩) (ms.length + 1) c)).heap[q]? = W.heap[q]? := fun q h1 h2 => (Xr.set_other (by have := h.lt; omega)).trans (hg.block q h2 (fun e => by have := (h.frr.lt q e.symm).2; omega))
 obtain ⟨k2, a2, b2⟩ := hbx.c2
 obtain ⟨k4, a4, b4⟩ := hbx.c4
 have o := fun (j : Nat) (hj : j ≠ 6) => (Mc.B.other (W := w6) (bm := bm) (i := 6) (v := .slice (some ⟨g, 0, none⟩) (ms.length + 1) c) j hj).trans (Xr.cell_kept kb j)
 obtain ⟨tg', htg⟩ : ∃ tg' : Nat → Nat, tg' = fun q => if q = g then 2 else if q < W1.heap.size then tg q else if x.2.tv.ownBlock = some q then 11 + 2 * ms.length else 10 + 2 * ms.length := ⟨_, rfl⟩
 have told : ∀ q, q < W1.heap.size → tg q ≠ 2 → tg' q = tg q := fun q h1 h2 => by
  rw [htg]
  show (if q = g then 2 else _) = _
  rw [if_neg (by rintro rfl; rcases hgl with e | e; exact h2 e.2; omega), if_pos h1]
 have tnew : ∀ q, W1.heap.size ≤ q → q < W.heap.size → tg' q = if x.2.tv.ownBlock = some q then 11 + 2 * ms.length else 10 + 2 * ms.length := fun q h1 h2 => by
  rw [htg]
  show (if q = g then 2 else _) = _
  rw [if_neg (by rintro rfl; rcases hgl with e | e <;> omega), if_neg (by omega)]
 refine ⟨tg', h.belAg ha (by omega), fun q hq => by rw [told q (by omega) (by rw [h.lo q hq]; omega)]; exact h.lo q hq, h.hbm, by rw [told bm h.lt (by rw [h.tb]; omega)]; exact h.tb, ⟨(o 0 (by omega)).trans hbx.c0, (o 1 (by omega)).trans hbx.c1, ⟨k2, (o 2 (by omega)).trans a2, b2⟩, (o 3 (by omega)).trans hbx.c3, ⟨k4, (o 4 (by omega)).trans a4, b4⟩, (o 5 (by omega)).trans hbx.c5, World.cell?_setCell_same _ _ _ ((Xr.cell_kept kb 6).trans hbx.c6), (o 7 (by omega)).trans hbx.c7, (o 8 (by omega)).trans hbx.c8, fun i => by rw [World.frozen?_setCell]; exact (Xr.frz_kept kb i).trans (hbx.fz i)⟩, by rw [hs']; exact Xr.ow_kept h.evr (fun q hq => ha.blk q (h.evr.lt q hq).2 (by rw [h.tev q hq]; omega)), fun q hq => by rw [told q (h.evr.lt q hq).2 (by rw [h.tev q hq]; omega)]; exact h.tev q hq, ?_, ?_, ⟨⟨?_, ?_, ?_, ?_, hrk⟩, ?_⟩, fun y hy => ⟨(ha.blk y.1 (h.hlt hy) (by rw [(h.kp y hy).2]; omega)).trans (h.kp y hy).1, by rw [told y.1 (h.hlt hy) (by rw [(h.kp y hy).2]; omega)]; exact (h.kp y hy).2⟩⟩
 · exact Xr.ow_kept ho (fun q hq => by cases hq; exact Xr.set_other hgb)
 · intro q hq
   cases hq
   rw [htg]
   exact if_pos rfl
 · exact (hzf.kept (by rw [World.size_setCell]; exact hg.size) (fun q hq => knew q (hzf.ge q hq).1 (hzf.ge q hq).2)).lo h0
 · intro q hq
   rw [tnew q (hzf.ge q hq).1 (hzf.ge q hq).2, if_neg (fun e => hap q e hq)]
 · exact Mc.ow_mono (Xr.ow_kept htr (fun q hq => knew q (htr.lt q hq).1 (htr.lt q hq).2)) h0
 · intro q hq
   rw [tnew q (htr.lt q hq).1 (htr.lt q hq).2, if_pos hq]
 · exact h.frs.ag ha (fun k h3 h4 => by omega) (fun q h1 h2 h3 => told q h1 (by omega))
end
end Go.Proofs.Ytcalcikclcmkaaa
namespace Go.Proofs.Ytcalcikclcmkaaa
open Go.RowKit
set_option linter.unusedVariables false
theorem Top_any (bm g k c : Nat) (W : World) (h6 : W.cell? ⟨bm, 6, none⟩ = some (.slice (some ⟨g, 0, none⟩) (k + 1) c)) (hk : k ≤ 1000) :
  Calls Try.prog 74 #[.pointer (some ⟨bm, 0, none⟩)] W fun r W' => r = .returned (.pointer (some ⟨g, k * 5, none⟩)) ∧ Below W.heap.size W W' := by
 have hw0 : IntKind.i64.wrap (((k + 1 : Nat) : Int) - 1) = (k : Int) := by rw [IntKind.wrap_i64]; omega
 have hw1 : IntKind.i64.wrap ((k : Int) + 1 - 1) = (k : Int) := by rw [IntKind.wrap_i64]; omega
 have k0 : (0 : Int) ≤ (k : Int) := by omega
 have k1 : (k : Int) < ((k + 1 : Nat) : Int) := by omega
 have k2 : (k : Int) < (k : Int) + 1 := by omega
 go_enter Try.func74, Try.ntmps74
 go_upto_region 1 with fail
 go_quiet (fail)
 go_wp2_with fail
 go_ret
 exact ⟨by simp, below_drewN (Below.refl _ _) _⟩
section
variable {m : Nat} {w0 : World} {hs : List (Nat × Obj)} {tg : Nat → Nat} {bm : Nat} {fs is : Pg.Sl} {inp : List Int} {fuel bnd : Nat} {s : Xr.S} {x : Mc.X m} {r : List (Mc.X m)} {rf ev : Value}
theorem Tell_any (W : World) (h : Mc.J w0 W hs tg bm fs is inp fuel bnd s (x :: r) rf ev) (hr : r.length ≤ 1000) (hl : s.evs.length ≤ 100000) (a0 a2 a3 a4 a5 : Int) :
  Calls Try.prog 77 #[.pointer (some ⟨bm, 0, none⟩), .int .i64 a0, .int .i64 a2, .int .i64 a3, .int .i64 a4, .int .i64 a5] W fun e W' => e = .returned (.tuple #[]) ∧ ∃ tg' ev', Mc.J w0 W' hs tg' bm fs is inp fuel bnd { s with evs := s.evs ++ [⟨a0, x.1.fr.num, a2, a3, a4, a5⟩] } (x :: r) rf ev' := by
 obtain ⟨a, c, rfl⟩ := h.evForm
 obtain ⟨g, cf, rfl⟩ := h.rfForm
 have HT := hide (Top_any bm g r.length cf W.drew h.box.c6 hr)
 have HR := hide (fun (V : World) (hV : Below W.heap.size W V) => (h.below hV).box.c7)
 have HZ := hide (fun (V : World) (hV : Below W.heap.size W V) => (h.below hV).box.fz 7)
 have HN := hide (fun (V : World) (hV : Below W.heap.size W V) => show V.cell? ⟨g, r.length * 5, none⟩ = some (.int .i64 (x.1.fr.num : Nat)) from (h.below hV).top 0 _ rfl)
 have HROW := hide h.evr
 have HEV := hide (show ∀ q, (Value.slice a s.evs.length c).ownBlock = some q → q < W.heap.size ∧ q ≠ bm from fun q hq => ⟨(h.evr.lt q hq).2, fun e => by have h1 := h.tev q hq; rw [e, h.tb] at h1; cases h1⟩)
 have hbl : w0.heap.size ≤ W.heap.size := h.bel.size
 have hbm : bm < W.heap.size := h.lt
 have k7 : W.cell? ⟨bm, 7, none⟩ = some (.slice a s.evs.length c) := h.box.c7
 have HAP := hide (fun (W2 w6 : World) (h1 : Below W.heap.size W W2) (h2 : W2.grownBy w6 (Value.slice a s.evs.length c).ownBlock) (gA cA : Nat) (h3 : w6.ownsRow w0.heap.size 50 6 (.slice (some ⟨gA, 0, none⟩) (s.evs.length + 1) cA) (s.evs.length + 1) (Xr.evC s.evs ++ [.int .i64 a0, .int .i64 (x.1.fr.num : Nat), .int .i64 a2, .int .i64 a3, .int .i64 a4, .int .i64 a5])) (h4 : (Value.slice a s.evs.length c).ownBlock = some gA ∨ gA = W2.heap.size) => h.told h1 h2 ⟨a0, x.1.fr.num, a2, a3, a4, a5⟩ gA cA h3 h4)
 obtain ⟨i0, hi0, hz0, hz1', hz2⟩ := info_of Try.infoEv
 have HI := hide hi0
 have HZ0 := hide hz0
 have HZ1 := hide hz1'
 have HZ2 := hide hz2
 clear h hi0 hz0 hz1' hz2
 generalize s.evs.length = n at *
 generalize Xr.evC s.evs = xs at *
 go_enter Try.func77, Try.ntmps77
 go_region_law (first
  | (go_simp; go_at_call 74; refine (unhide HT).mono ?_; rintro e5 w5 ⟨rfl, hb5⟩; have HBD := hide (show Below W.heap.size W w5 from ((Below.refl W.heap.size W).drew).trans (hb5.mono (Nat.le_refl _))); have z7 := (unhide HR) _ (unhide HBD); have zn := (unhide HN) _ (unhide HBD); have hsz5 : W.heap.size ≤ w5.heap.size := (unhide HBD).size; have z7b := (unhide HR) (w5.alloc (Obj.cells #[.int .i64 a0, .int .i64 (x.1.fr.num : Nat), .int .i64 a2, .int .i64 a3, .int .i64 a4, .int .i64 a5] 50)) ((unhide HBD).alloc hsz5 _); clear hb5)
  | (refine step_append_lies _ rfl (.tmp 16) (.tmp 28) 38 rfl w0.heap.size 50 i0 _ 6 48 Try.underlying38 (unhide HI) (unhide HZ0) (unhide HZ1) (unhide HZ2) rfl (by omega) (.slice a n c) n xs rfl (Pg.ow_below (unhide HROW) ((unhide HBD).alloc (by omega) _)) _ 1 1 [.int .i64 a0, .int .i64 (x.1.fr.num : Nat), .int .i64 a2, .int .i64 a3, .int .i64 a4, .int .i64 a5] rfl rfl (World.news_of_block (heap_alloc_new _ _)) (by simp [Value.oneCell']) (by omega) (by unfold maxLen; omega) (by omega) (by simp; omega) _ rfl ?_; intro gA cA w6 hoA hgA hatA hltA; have HGA := hide hgA; have HOA := hide hoA; have HAT := hide hatA; have hbb := (hgA.block bm (by simp; omega) (fun e => ((unhide HEV) bm e.symm).2 rfl)).trans (((unhide HBD).alloc (by omega) _).block bm (by omega)); have z4 := (Xr.cell_kept hbb 7).trans k7; have z5 := (Xr.frz_kept hbb 7).trans ((unhide HZ) _ (Below.refl _ _)); clear hatA hltA hoA hgA hbb))
 all_goals
  go_wp2_with fail
  go_end0
  exact ⟨rfl, _, _, (unhide HAP) _ _ ((unhide HBD).alloc (by omega) _) (unhide HGA) _ _ (unhide HOA) (unhide HAT)⟩
end
end Go.Proofs.Ytcalcikclcmkaaa
namespace Go.Proofs.Ytcalcikclcmkaaa
open Go.RowKit
set_option linter.unusedVariables false
theorem Try.infoI : (Try.prog.info? 3).map (fun i => (i.zero, i.size, i.bytes)) = some (some (.int .i64 0), 1, 8) := by kernel_rfl
theorem Pg.one_i (l : List Int) : ∀ u ∈ l.map (Value.int .i64), u.oneCell' = true := by
 intro u hu
 obtain ⟨x, _, rfl⟩ := List.mem_map.1 hu
 rfl
structure Pg.Vk (w W : World) (e : Pg.E) (i : Nat) (ls : List Int) (v : Value) : Prop where
 len : ls.length = i
 row : W.ownsRow (w.heap.size + 1) 3 1 v i (ls.map (Value.int .i64))
 lo : w.heap.size + 1 ≤ W.heap.size
 e0 : W.cell? ⟨w.heap.size, 0, none⟩ = some (.int .i64 e.k)
 e1 : W.cell? ⟨w.heap.size, 1, none⟩ = some (.int .i64 e.n)
 e2 : W.cell? ⟨w.heap.size, 2, none⟩ = some (.slice e.args.ad e.args.len e.args.cap)
 bel : Below w.heap.size w W
theorem Pg.Vk.later {w W W' : World} {e : Pg.E} {i : Nat} {ls : List Int} {v : Value} (h : Pg.Vk w W e i ls v) (hb : Below W.heap.size W W') : Pg.Vk w W' e i ls v := by
 have l2 := World.block_lt_of_cell? W _ h.e0
 exact ⟨h.len, Pg.ow_below h.row hb, Nat.le_trans h.lo hb.size, (hb.cell (p := ⟨w.heap.size, 0, none⟩) l2).trans h.e0, (hb.cell (p := ⟨w.heap.size, 1, none⟩) l2).trans h.e1, (hb.cell (p := ⟨w.heap.size, 2, none⟩) l2).trans h.e2, h.bel.trans (hb.mono h.bel.size)⟩
theorem Pg.Vk.form {w W : World} {e : Pg.E} {i : Nat} {ls : List Int} {v : Value} (h : Pg.Vk w W e i ls v) : ∃ a c, v = .slice a i c := by
 rcases h.row.2 with ⟨hv, hx⟩ | ⟨g, cap, cur, hv, _⟩
 · exact ⟨none, 0, by rw [hv, hx]⟩
 · exact ⟨_, _, hv⟩
theorem Pg.Vk.put {w W : World} {e : Pg.E} {i : Nat} {ls : List Int} {a : Option Addr} {c : Nat} (h : Pg.Vk w W e i ls (.slice a i c)) (hi : i ≤ 2) (z : Int) :
  ∃ v' W', (Builtin.append_ #[37, 37] 37 #[.slice a i c, .slice (some ⟨W.heap.size, 0, none⟩) 1 1]).run Try.prog (W.alloc (Obj.cells #[.int .i64 z] 3)) = .ok v' W' ∧ Pg.Vk w W' e (i + 1) (ls ++ [z]) v' := by
 have hal := (Below.refl W.heap.size W).alloc (Nat.le_refl _) (Obj.cells #[.int .i64 z] 3)
 have h1 := h.later hal
 obtain ⟨i0, hi', hz0, hz1, hz2⟩ := info_of Try.infoI
 obtain ⟨v', W', hrun, hown, hgr, _, _⟩ := run_append_own_at (P := Try.prog) (W.alloc (Obj.cells #[.int .i64 z] 3)) (w.heap.size + 1) 37 37 3 i0 _ 1 8 Try.underlying37 hi' hz0 hz1 hz2 rfl (by decide) (.slice a i c) i (ls.map (Value.int .i64)) h1.row ⟨W.heap.size, 0, none⟩ 1 1 [.int .i64 z] rfl (fun j u hj => by
  match j, hj with
  | 0, hj => cases hj; rw [Go.WideShapes.add_plain]; go_simp
  | j + 1, hj => simp at hj) (by simp [Value.oneCell']) (by unfold maxLen; omega) (by omega) h1.lo
 have hne : some w.heap.size ≠ (Value.slice a i c).ownBlock := fun e => by have := (h1.row.lt _ e.symm).1; omega
 have l2 := World.block_lt_of_cell? _ _ h1.e0
 have hc : ∀ j, W'.cell? ⟨w.heap.size, j, none⟩ = (W.alloc (Obj.cells #[.int .i64 z] 3)).cell? ⟨w.heap.size, j, none⟩ := fun j => hgr.cell_far ⟨w.heap.size, j, none⟩ l2 hne
 refine ⟨v', W', hrun, ⟨by simp [h.len], by rw [List.map_append]; exact hown, Nat.le_trans h1.lo hgr.size, (hc 0).trans h1.e0, (hc 1).trans h1.e1, (hc 2).trans h1.e2, h1.bel.grown hgr h1.bel.size (fun q hq => by have := (h1.row.lt _ hq).1; omega)⟩⟩
theorem Pg.Vk.at_ {w W : World} {e : Pg.E} {i : Nat} {ls : List Int} {v : Value} (h : Pg.Vk w W e i ls v) (hi : 0 < i) : ∃ g c, v = .slice (some ⟨g, 0, none⟩) i c ∧ ∀ j, j < i → W.cell? ⟨g, j, none⟩ = some (.int .i64 ((ls[j]?).getD 0)) := by
 obtain ⟨g, c, rfl, _, _⟩ := h.row.form hi
 refine ⟨g, c, rfl, fun j hj => ?_⟩
 have hl := h.len
 have := h.row.cells (g := g) rfl j (.int .i64 ((ls[j]?).getD 0)) (by rw [List.getElem?_map, List.getElem?_eq_getElem (by omega)]; rfl)
 rw [Go.WideShapes.add_plain, Nat.zero_add] at this
 exact this
theorem ValueOf_any (sa : Option Addr) (sl sc : Nat) (vs : List (List Int)) : ∀ (n : Nat) (e : Pg.E) (x : Pg.XT n) (w : World), Pg.RX w n e x → Pg.RV w ⟨sa, sl, sc⟩ vs → Pg.okV vs n x →
  Calls Try.prog 10 #[e.val, .slice sa sl sc] w fun r w' => r = .returned (.tuple #[.int .i64 (Pg.val vs n x).1, .int .i64 (Pg.val vs n x).2]) ∧ Below w.heap.size w w' := by
 intro n
 induction n with
 | zero => intro e x w h; exact absurd h id
 | succ n ih =>
  intro e x w hre hrv hok
  obtain ⟨⟨hk, hn⟩, hs⟩ := hre
  obtain ⟨hK, hA, hV2, hV3, hsub⟩ := hok
  have hlen := hs.len
  have hsl : sl = vs.length := hrv.len
  have hsf : sl ≤ 35184372088832 := by rw [hsl]; exact hrv.few
  have HSL := hide hsl
  clear hsl
  have hAle : Pg.argsN x.1.1 ≤ 2 := by unfold Pg.argsN; split <;> (try split) <;> omega
  have hl2 : e.args.len ≤ 2 := by omega
  obtain ⟨V, hV⟩ : ∃ V, V = Pg.val vs (n + 1) x := ⟨_, rfl⟩
  rw [← hV]
  have HV := hide (show V = (match Pg.evs (Pg.val vs n) x.2 with | .error h => (0, h) | .ok ls => Pg.fin vs e.k e.n ls) by rw [hV, hk, hn]; rfl)
  have HS := hide hs
  have HLN := hide hlen
  have IH := hide ih
  have HRV := hide hrv
  have HSUB := hide hsub
  rw [← hk] at hK hA hV2 hV3
  rw [← hn] at hV2 hV3
  have HK := hide hK
  have HA := hide (hlen.trans hA)
  have HV2 := hide hV2
  have HV3 := hide hV3
  clear hs hlen ih hrv hsub hV hk hn hK hA hV2 hV3 hAle
  have hb0 := (Below.refl w.heap.size w).alloc (Nat.le_refl _) (Obj.cells #[.int .i64 e.k, .int .i64 e.n, .slice e.args.ad e.args.len e.args.cap] 24)
  have HB0 := hide hb0
  have HRV0 := hide ((unhide HRV).later hb0 (Nat.le_refl _))
  clear hb0
  unfold Pg.E.val
  go_enter Try.func10, Try.ntmps10
  by_cases k1 : e.k = 1
  · have b1 : (e.k == 1) = true := by simp [k1]
    have HN := hide (show V = (e.n, 0) by
     have h0 : x.2 = [] := List.eq_nil_of_length_eq_zero (by have a := unhide HA; have b := unhide HLN; rw [k1] at a; have : Pg.argsN 1 = 0 := rfl; omega)
     rw [unhide HV, h0]
     exact Pg.fin_num k1)
    clear k1
    go_wp2_with fail
    exact bodyPost_ret (v := .tuple #[.int .i64 (e.n), .int .i64 (0)]) (by simp [results, Try.results10, go_sem]) rfl ⟨by rw [unhide HN], unhide HB0⟩
  · have b1 : (e.k == 1) = false := by simpa using k1
    by_cases k2 : e.k = 2
    · have b2 : (e.k == 2) = true := by simp [k2]
      obtain ⟨l, hv, hne⟩ := (unhide HV2) k2
      obtain ⟨j, hj, hjl⟩ := Pg.var_some hv
      obtain ⟨b, o, t, had, hb, hc, hrn⟩ := (unhide HRV0).at_ j l hjl
      cases l with
      | nil => exact absurd rfl hne
      | cons a r =>
       obtain ⟨b2', o2, had2, hb2, hc2⟩ := hrn.at_ 0 a rfl
       have HN := hide (show V = (a, 0) by
        have h0 : x.2 = [] := List.eq_nil_of_length_eq_zero (by have a := unhide HA; have b := unhide HLN; rw [k2] at a; have : Pg.argsN 2 = 0 := rfl; omega)
        rw [unhide HV, h0]
        exact Pg.fin_var k2 hv)
       have had' : sa = some ⟨b, o, none⟩ := had
       subst had'
       have hj3 : (j : Int) < (sl : Int) := by have := (List.getElem?_eq_some_iff.1 hjl).1; have := unhide HSL; omega
       have hj2 : (0 : Int) ≤ (j : Int) := by omega
       have htl : (0 : Int) < (t.len : Int) := by rw [hrn.len]; simp
       rw [had2] at hc
       rw [Nat.add_zero] at hc2
       have HNJ := hide hj
       rw [hj] at *
       clear k1 k2 hv hjl hrn had hne
       go_wp2_with fail
       exact bodyPost_ret (v := .tuple #[.int .i64 (a), .int .i64 (0)]) (by simp [results, Try.results10, go_sem]) rfl ⟨by rw [unhide HN], (Below.refl _ _).alloc (Nat.le_refl _) _⟩
    · have b2 : (e.k == 2) = false := by simpa using k2
      go_wp2_with fail
      go_loopw [6, 7] (fun sv iv wr => ∃ (i : Nat) (ls : List Int), i ≤ e.args.len ∧ iv = .int .i64 i ∧ Hid (Pg.evs (Pg.val vs n) x.2 = Pg.cont ls (Pg.evs (Pg.val vs n) (x.2.drop i))) ∧ Pg.Vk w wr e i ls sv) (fun _ iv _ => e.args.len - (intOf iv).toNat)
      case atStart => exact ⟨0, [], Nat.zero_le _, rfl, by show _ = _; rw [List.drop_zero]; cases Pg.evs (Pg.val vs n) x.2 <;> rfl, ⟨rfl, World.ownsRow_nil _ _ _ _, by simp, by go_simp, by go_simp, by go_simp, unhide HB0⟩⟩
      case round =>
       obtain ⟨i, ls, hi, rfl, hrel, hvk⟩ := hrel
       obtain ⟨ra, rc, rfl⟩ := hvk.form
       have HRL := hide (unhide hrel)
       have HVK := hide hvk
       have hz := hvk.bel.size
       have e2 := hvk.e2
       clear hrel hvk
       by_cases hlt : i < e.args.len
       · have hlt2 : i < x.2.length := by have := unhide HLN; omega
         have hy := List.getElem?_eq_getElem hlt2
         obtain ⟨b, o, cc, had, hb, hlies, hrd⟩ := (unhide HS).at_ i _ hy
         have hoky := (unhide HSUB) _ (List.mem_of_getElem? hy)
         have HY := hide (fun h => Pg.evs_yes (Pg.val vs n) x.2 i _ hy h)
         have HNO := hide (fun h => Pg.evs_no (Pg.val vs n) x.2 i _ hy h)
         generalize x.2[i] = y at *
         obtain ⟨p0, p1, p2⟩ := hlies.later (unhide HVK).bel (Nat.le_refl _) hb
         have HIC := hide ((unhide IH) cc y wr (hrd.later (unhide HVK).bel (Nat.le_refl _)) ((unhide HRV).later (unhide HVK).bel (Nat.le_refl _)) hoky)
         obtain ⟨v, hw, hvv⟩ : ∃ v hw, Pg.val vs n y = (v, hw) := ⟨_, _, rfl⟩
         rw [hvv] at HIC HY HNO
         clear hlies hrd hy hoky hvv
         have hi0 : (0 : Int) ≤ (i : Int) := by omega
         have hi1 : (i : Int) < (e.args.len : Int) := by omega
         rw [had] at e2
         rw [had]
         unfold Pg.E.val at HIC
         go_wp2_with fail
         refine (unhide HIC).mono ?_
         rintro r w1 ⟨rfl, hb1⟩
         have hvk1 := (unhide HVK).later hb1
         have HV1 := hide hvk1
         clear hb1 p0 p1 p2
         by_cases hw0 : hw = 0
         · have g : (hw != 0) = false := by simp [hw0]
           have HN := hide (show Pg.evs (Pg.val vs n) x.2 = Pg.cont (ls ++ [v]) (Pg.evs (Pg.val vs n) (x.2.drop (i + 1))) by rw [unhide HRL, (unhide HY) hw0, Pg.cont_cont])
           obtain ⟨v', W', hrun, hvk2⟩ := hvk1.put (by omega) v
           obtain ⟨ra', rc', rfl⟩ := hvk2.form
           have HRN := hide hrun
           have HV2' := hide hvk2
           clear hw0 hvk1 hrun hvk2 e2
           go_wp2_with (at_builtin; refine Pg.wp_append_run rfl _ _ 37 rfl _ _ _ rfl rfl (unhide HRN) ?_)
           exact ⟨⟨i + 1, ls ++ [v], by omega, by go_num, unhide HN, unhide HV2'⟩, by simp [intOf]; omega⟩
         · have g : (hw != 0) = true := by simpa using hw0
           have HN := hide (show V = (0, hw) by rw [unhide HV, unhide HRL, (unhide HNO) hw0]; rfl)
           clear hw0 hvk1 e2
           go_wp2_with fail
           exact bodyPost_ret (v := .tuple #[.int .i64 (0), .int .i64 (hw)]) (by simp [results, Try.results10, go_sem]) rfl ⟨by rw [unhide HN], (unhide HV1).bel⟩
       · have hil : i = e.args.len := by omega
         have HF := hide (show V = Pg.fin vs e.k e.n ls by
          rw [unhide HV, unhide HRL, List.drop_of_length_le (by have := unhide HLN; omega)]
          show Pg.fin vs e.k e.n (ls ++ []) = _
          rw [List.append_nil])
         have hi0 : 0 < i := by
          have a := unhide HA
          have : 1 ≤ Pg.argsN e.k := by unfold Pg.argsN; rw [if_neg (by omega)]; split <;> omega
          omega
         obtain ⟨g, c, hsv, hcells⟩ := (unhide HVK).at_ hi0
         cases hsv
         have e0 := (unhide HVK).e0
         have e1 := (unhide HVK).e1
         have a0 := hcells 0 hi0
         obtain ⟨L0, hL0⟩ : ∃ L0, (ls[0]?).getD 0 = L0 := ⟨_, rfl⟩
         obtain ⟨L1, hL1⟩ : ∃ L1, (ls[1]?).getD 0 = L1 := ⟨_, rfl⟩
         rw [hL0] at a0
         have HL0 := hide hL0
         have HL1 := hide hL1
         have HBR := hide (unhide HVK).bel
         have HRVR := hide ((unhide HRV).later (unhide HVK).bel (Nat.le_refl _))
         clear hL0 HVK HV HS HLN IH HRV HSUB HB0 HRL HRV0
         by_cases k3 : e.k = 3
         · have b3 : (e.k == 3) = true := by simp [k3]
           obtain ⟨l, hv⟩ := (unhide HV3) k3
           obtain ⟨j, hj, hjl⟩ := Pg.var_some hv
           obtain ⟨b, o, t, had, hb, hc, hrn⟩ := (unhide HRVR).at_ j l hjl
           have had' : sa = some ⟨b, o, none⟩ := had
           subst had'
           have hj3 : (j : Int) < (sl : Int) := by have := (List.getElem?_eq_some_iff.1 hjl).1; have := unhide HSL; omega
           have hj2 : (0 : Int) ≤ (j : Int) := by omega
           have htl := hrn.len
           have htf := hrn.few
           rw [← htl] at htf
           rw [hj] at e1
           have hlt' : ¬ (i : Int) < (e.args.len : Int) := by omega
           have hi2'' : (0 : Int) < (i : Int) := by omega
           by_cases hin : 0 ≤ L0 ∧ L0 < (t.len : Int)
           · obtain ⟨q, rfl⟩ : ∃ q : Nat, L0 = q := ⟨L0.toNat, by omega⟩
             obtain ⟨v, hvq⟩ : ∃ v, l[q]? = some v := ⟨_, List.getElem?_eq_getElem (by omega)⟩
             obtain ⟨b2', o2, had2, hb2, hc2⟩ := hrn.at_ q v hvq
             have HN := hide (show V = (v, 0) by rw [unhide HF, Pg.fin_cell k3 hv (unhide HL0) (by unfold Pg.at?; rw [if_pos (by omega), Int.toNat_natCast]; exact hvq)])
             have HIS := hide (fun W => show Calls Try.prog 31 #[.int .i64 (q : Int), .int .i64 0, .int .i64 ((t.len : Int) - 1)] W fun r w' => r = .returned (.bool true) ∧ w' = W by
              have := between_any (q : Int) 0 ((t.len : Int) - 1) W
              rw [decide_eq_true (by omega)] at this
              exact this)
             have hq1 : (0 : Int) ≤ (q : Int) := by omega
             have hq2 : (q : Int) < (t.len : Int) := by omega
             rw [had2] at hc
             clear k1 k2 k3 hv hj hjl hrn had hin hvq had2 htl hil hcells hL1 hi
             go_wp2_with fail
             go_quiet ((go_at_call 31; exact Calls.quiet_of_same ((unhide HIS) _)))
             go_wp2_with fail
             go_quiet (fail)
             go_wp2_with fail
             exact bodyPost_ret (v := .tuple #[.int .i64 (v), .int .i64 (0)]) (by simp [results, Try.results10, go_sem]) rfl ⟨by rw [unhide HN], below_drewN (below_drewN (unhide HBR) _) _⟩
           · have HN := hide (show V = (0, 3) by rw [unhide HF, Pg.fin_none k3 hv (unhide HL0) (Pg.at_out (by omega))])
             have HIS := hide (fun W => show Calls Try.prog 31 #[.int .i64 L0, .int .i64 0, .int .i64 ((t.len : Int) - 1)] W fun r w' => r = .returned (.bool false) ∧ w' = W by
              have := between_any L0 0 ((t.len : Int) - 1) W
              rw [decide_eq_false (by omega)] at this
              exact this)
             clear k1 k2 k3 hv hj hjl hrn had hin htl hil hcells hL1 hi
             go_wp2_with fail
             go_quiet ((go_at_call 31; exact Calls.quiet_of_same ((unhide HIS) _)))
             go_wp2_with fail
             exact bodyPost_ret (v := .tuple #[.int .i64 (0), .int .i64 (3)]) (by simp [results, Try.results10, go_sem]) rfl ⟨by rw [unhide HN], below_drewN (unhide HBR) _⟩
         · have b3 : (e.k == 3) = false := by simpa using k3
           have HN := hide (show V = Pg.op e.k L0 L1 by rw [unhide HF, Pg.fin_op k1 k2 k3 (unhide HL0) (unhide HL1)])
           have hk4 : 4 ≤ e.k ∧ e.k ≤ 10 := by have := unhide HK; omega
           have hi2 : i = 2 := by
            have a := unhide HA
            have : Pg.argsN e.k = 2 := by unfold Pg.argsN; rw [if_neg (by omega), if_neg k3]
            omega
           have a1 := hcells 1 (by omega)
           rw [hL1] at a1
           have HJ := hide (fun W => op_any e.k L0 L1 W hk4)
           have hlt' : ¬ (i : Int) < (e.args.len : Int) := by omega
           have hi2' : (1 : Int) < (i : Int) := by omega
           have hi2'' : (0 : Int) < (i : Int) := by omega
           clear k1 k2 k3 hk4 hil hi2 hcells hL1 hi
           generalize Pg.op e.k L0 L1 = OP at *
           go_wp2_with fail
           go_quiet ((go_at_call 32; exact Calls.quiet_of_same ((unhide HJ) _)))
           go_wp2_with fail
           exact bodyPost_ret (v := .tuple #[.int .i64 (OP.1), .int .i64 (OP.2)]) (by simp [results, Try.results10, go_sem]) rfl ⟨by rw [unhide HN], below_drewN (unhide HBR) _⟩
end Go.Proofs.Ytcalcikclcmkaaa
namespace Go.Proofs.Ytcalcikclcmkaaa
open Go.RowKit
set_option linter.unusedVariables false
theorem Xr.Zf.rv {W : World} {lo : Nat} {gv : Option Nat} {vb : List Nat} {c : Nat} {vs : List (List Int)} (h : Xr.Zf W lo gv vb c vs) : Pg.RV W ⟨gv.map fun g => ⟨g, 0, none⟩, vs.length, c⟩ vs := by
 refine ⟨rfl, h.cap, by have := h.few; omega, fun i l hl => ?_⟩
 have hi : i < vb.length := by rw [h.len]; exact (List.getElem?_eq_some_iff.1 hl).1
 obtain ⟨g, c', e1, e2, e3, e4, e5, e6⟩ := h.at_ i vb[i] l (List.getElem?_eq_getElem hi) hl
 have hbl := (h.ge vb[i] (List.mem_append_right _ (List.getElem_mem hi))).2
 refine ⟨g, 0, ⟨some ⟨vb[i], 0, none⟩, l.length, c'⟩, by rw [e1]; rfl, World.block_lt_of_cell? W _ e2, by rw [Nat.zero_add]; exact e2, ⟨rfl, e3, by omega, fun j z hz => ⟨vb[i], 0, rfl, hbl, by rw [Nat.zero_add]; exact e5 j z hz⟩⟩⟩
section
variable {m : Nat} {w0 : World} {hs : List (Nat × Obj)} {tg : Nat → Nat} {bm : Nat} {fs is : Pg.Sl} {inp : List Int} {fuel bnd : Nat} {s : Xr.S} {x : Mc.X m} {r : List (Mc.X m)} {rf ev : Value}
theorem End_any (W : World) (h : Mc.J w0 W hs tg bm fs is inp fuel bnd s (x :: r) rf ev) (hr : r.length ≤ 1000) (hl : s.evs.length ≤ 100000) (a how : Int) :
  Calls Try.prog 76 #[.pointer (some ⟨bm, 0, none⟩), .int .i64 a, .int .i64 how] W fun e W' => e = .returned (.tuple #[]) ∧ ∃ ev', Mc.O w0 W' bm (s.evs ++ [⟨7, x.1.fr.num, a, 0, 0, how⟩]) ev' := by
 have HT := hide (Tell_any W h hr hl 7 a 0 0 how)
 clear h
 go_enter Try.func76, Try.ntmps76
 go_wp2_with fail
 refine (unhide HT).mono ?_
 rintro e W2 ⟨rfl, tg', ev', hJ⟩
 have z8 := hJ.box.c8
 have zf := hJ.box.fz 8
 have HJ := hide hJ
 clear hJ
 go_wp2_with fail
 go_end0
 exact ⟨rfl, ev', (unhide HJ).over⟩
theorem Value_any (W : World) (h : Mc.J w0 W hs tg bm fs is inp fuel bnd s (x :: r) rf ev) (hr : r.length ≤ 1000) (hl : s.evs.length ≤ 100000) (k : Nat) (e : Pg.E) (y : Pg.XT k) (hre : Pg.RX w0 k e y) (hok : Pg.okV x.1.fr.vs k y) :
  Calls Try.prog 80 #[.pointer (some ⟨bm, 0, none⟩), e.val] W fun v W' => v = .returned (.tuple #[.int .i64 (Pg.val x.1.fr.vs k y).1, .bool (decide ((Pg.val x.1.fr.vs k y).2 = 0))]) ∧
   ((Pg.val x.1.fr.vs k y).2 = 0 → Below W.heap.size W W') ∧ ((Pg.val x.1.fr.vs k y).2 ≠ 0 → ∃ ev', Mc.O w0 W' bm (s.evs ++ [⟨7, x.1.fr.num, x.1.fr.at_, 0, 0, (Pg.val x.1.fr.vs k y).2⟩]) ev') := by
 obtain ⟨g, cf, rfl⟩ := h.rfForm
 obtain ⟨ek, en, ⟨ea, el, ec⟩⟩ := e
 have hb0 := (Below.refl W.heap.size W).alloc (Nat.le_refl _) (Obj.cells #[.int .i64 ek, .int .i64 en, .slice ea el ec] 24)
 have HT := hide (fun (V : World) (hV : Below W.heap.size W V) => Top_any bm g r.length cf V (h.below hV).box.c6 hr)
 have HN := hide (fun (V : World) (hV : Below W.heap.size W V) => show V.cell? ⟨g, r.length * 5 + 3, none⟩ = some (.slice (x.2.gv.map fun g => ⟨g, 0, none⟩) x.1.fr.vs.length x.2.c) from (h.below hV).top 3 _ rfl)
 have HA := hide (fun (V : World) (hV : Below W.heap.size W V) => show V.cell? ⟨g, r.length * 5 + 2, none⟩ = some (.int .i64 x.1.fr.at_) from (h.below hV).top 2 _ rfl)
 have HV := hide (fun (V : World) (hV : Below W.heap.size W V) => show Calls Try.prog 10 #[.agg #[.int .i64 ek, .int .i64 en, .slice ea el ec], .slice (x.2.gv.map fun g => ⟨g, 0, none⟩) x.1.fr.vs.length x.2.c] V _ from ValueOf_any (x.2.gv.map fun g => ⟨g, 0, none⟩) x.1.fr.vs.length x.2.c x.1.fr.vs k ⟨ek, en, ⟨ea, el, ec⟩⟩ y V (hre.later (h.below hV).bel (Nat.le_refl _)) ((h.below hV).frs.1.zf.rv) hok)
 have HE := hide (fun (V : World) (hV : Below W.heap.size W V) (how : Int) => End_any V (h.below hV) hr hl x.1.fr.at_ how)
 have e0 : (W.alloc (Obj.cells #[.int .i64 ek, .int .i64 en, .slice ea el ec] 24)).cell? ⟨W.heap.size, 0, none⟩ = some (.int .i64 ek) := by go_simp
 have e1 : (W.alloc (Obj.cells #[.int .i64 ek, .int .i64 en, .slice ea el ec] 24)).cell? ⟨W.heap.size, 1, none⟩ = some (.int .i64 en) := by go_simp
 have e2 : (W.alloc (Obj.cells #[.int .i64 ek, .int .i64 en, .slice ea el ec] 24)).cell? ⟨W.heap.size, 2, none⟩ = some (.slice ea el ec) := by go_simp
 have hbl : W.heap.size < (W.alloc (Obj.cells #[.int .i64 ek, .int .i64 en, .slice ea el ec] 24)).heap.size := by simp
 have HB0 := hide hb0
 have HE0 := hide (show ∀ (V : World), Below (W.alloc (Obj.cells #[.int .i64 ek, .int .i64 en, .slice ea el ec] 24)).heap.size (W.alloc (Obj.cells #[.int .i64 ek, .int .i64 en, .slice ea el ec] 24)) V → (V.cell? ⟨W.heap.size, 0, none⟩ = some (.int .i64 ek) ∧ V.cell? ⟨W.heap.size, 1, none⟩ = some (.int .i64 en) ∧ V.cell? ⟨W.heap.size, 2, none⟩ = some (.slice ea el ec) ∧ V.cell? ⟨g, r.length * 5 + 3, none⟩ = some (.slice (x.2.gv.map fun g => ⟨g, 0, none⟩) x.1.fr.vs.length x.2.c) ∧ Below W.heap.size W V) from fun V hV => ⟨(hV.cell (p := ⟨W.heap.size, 0, none⟩) hbl).trans e0, (hV.cell (p := ⟨W.heap.size, 1, none⟩) hbl).trans e1, (hV.cell (p := ⟨W.heap.size, 2, none⟩) hbl).trans e2, (unhide HN) V (hb0.trans (hV.mono hb0.size)), hb0.trans (hV.mono hb0.size)⟩)
 clear h hb0 hre hok
 generalize (x.2.gv.map fun g => (⟨g, 0, none⟩ : Addr)) = va at *
 generalize x.1.fr.vs.length = vl at *
 generalize x.2.c = vc at *
 generalize hval : Pg.val x.1.fr.vs k y = vv at *
 obtain ⟨z, how⟩ := vv
 dsimp only at *
 unfold Pg.E.val
 dsimp only
 go_enter Try.func80, Try.ntmps80
 go_upto_region 1 with fail
 generalize W.alloc (Obj.cells #[.int .i64 ek, .int .i64 en, .slice ea el ec] 24) = W1 at *
 clear e0 e1 e2
 go_region_held3 (fun V => V.cell? ⟨W.heap.size, 0, none⟩ = some (.int .i64 ek) ∧ V.cell? ⟨W.heap.size, 1, none⟩ = some (.int .i64 en) ∧ V.cell? ⟨W.heap.size, 2, none⟩ = some (.slice ea el ec) ∧ V.cell? ⟨g, r.length * 5 + 3, none⟩ = some (.slice va vl vc) ∧ Below W.heap.size W V)
  (first | assumption | exact (unhide HE0) _ ((Below.refl _ _).drew) | exact (unhide HE0) _ (unhide HB5))
  (first
   | (go_at_call 74; refine ((unhide HT) _ ?_).mono ?_; exact (unhide HB0).drew; rintro r5 w5 ⟨rfl, hb5⟩; have HB5 := hide (((Below.refl W1.heap.size W1).drew).trans (hb5.mono (Nat.le_refl _))); clear hb5)
   | (go_at_call 10; refine ((unhide HV) _ ?_).mono ?_; exact And.right (And.right (And.right (And.right (by assumption)))); rintro r6 w6 ⟨rfl, hb6⟩; have HB6 := hide ((unhide HB5).trans (hb6.mono (unhide HB5).size)); clear HB5; have HB5 := hide (unhide HB6); clear HB6 hb6))
 all_goals
  have HBW := hide ((unhide HB0).trans ((unhide HB5).mono (unhide HB0).size))
  by_cases h0 : how = 0
  · subst h0
    go_wp2_with fail
    go_ret2
    exact ⟨by simp, unhide HBW⟩
  · have b0 : (how != 0) = true := by simpa using h0
    have b1 : (how == 0) = false := by simpa using h0
    have H0 := hide h0
    clear h0
    go_wp2_with (first
     | (refine ((unhide HT) _ (unhide HBW)).mono ?_; rintro r7 w7 ⟨rfl, hb7⟩; have HB7 := hide ((unhide HBW).trans (hb7.mono (unhide HBW).size)); have z2 := (unhide HA) _ (unhide HB7); clear hb7)
     | (refine ((unhide HE) _ (unhide HB7) how).mono ?_; rintro r8 w8 ⟨rfl, ev8, ho8⟩; have HO8 := hide ho8; clear ho8))
    go_ret2
    exact ⟨by simp [unhide H0], fun h => absurd h (unhide H0), fun _ => ⟨ev8, unhide HO8⟩⟩
theorem Write_any (W : World) (h : Mc.J w0 W hs tg bm fs is inp fuel bnd s (x :: r) rf ev) (hr : r.length ≤ 1000) (hl : s.evs.length ≤ 100000) (a : Int) (v i : Nat) (l : List Int) (hv : x.1.fr.vs[v]? = some l) (hi : i < l.length) (z : Int) :
  Calls Try.prog 79 #[.pointer (some ⟨bm, 0, none⟩), .int .i64 a, .int .i64 (v : Nat), .int .i64 (i : Nat), .int .i64 z] W fun e W' => e = .returned (.tuple #[]) ∧
   ∃ tg' ev', Mc.J w0 W' hs tg' bm fs is inp fuel bnd { s with evs := s.evs ++ [⟨2, x.1.fr.num, a, (v : Nat), (i : Nat), z⟩] } ((⟨{ x.1.fr with vs := Xr.upd x.1.fr.vs v i z }, x.1.fn, x.1.ks⟩, x.2) :: r) rf ev' := by
 obtain ⟨g, cf, rfl⟩ := h.rfForm
 have HT := hide (Top_any bm g r.length cf W h.box.c6 hr)
 have hzf := h.frs.1.zf
 have hvl : v < x.1.fr.vs.length := (List.getElem?_eq_some_iff.1 hv).1
 have hvb : v < x.2.vb.length := by rw [hzf.len]; exact hvl
 obtain ⟨gv, cv, q1, q2, q3, q4, q5, q6⟩ := hzf.at_ v x.2.vb[v] l (List.getElem?_eq_getElem hvb) hv
 have HC := hide (show ∀ V, Below W.heap.size W V → V.cell? ⟨g, r.length * 5 + 3, none⟩ = some (.slice (some ⟨gv, 0, none⟩) x.1.fr.vs.length x.2.c) ∧ V.cell? ⟨gv, v, none⟩ = some (.slice (some ⟨x.2.vb[v], 0, none⟩) l.length cv) ∧ V.cell? ⟨x.2.vb[v], i, none⟩ = some (.int .i64 l[i]) ∧ V.frozen? ⟨x.2.vb[v], i, none⟩ = false from fun V hV => by
  have hJ := h.below hV
  refine ⟨?_, (hV.cell (p := ⟨gv, v, none⟩) (World.block_lt_of_cell? W _ q2)).trans q2, (hV.cell (p := ⟨x.2.vb[v], i, none⟩) (World.block_lt_of_cell? W _ (q5 i _ (List.getElem?_eq_getElem hi)))).trans (q5 i _ (List.getElem?_eq_getElem hi)), (hV.frozen (p := ⟨x.2.vb[v], i, none⟩) (World.block_lt_of_cell? W _ (q5 i _ (List.getElem?_eq_getElem hi)))).trans (q6 i)⟩
  have h3 := hJ.top 3 _ rfl
  rw [q1] at h3
  exact h3)
 have HS := hide (fun (V : World) (hV : Below W.heap.size W V) => Tell_any _ ((h.below hV).setVar hv (List.getElem?_eq_getElem hvb) hi z) hr hl 2 a (v : Nat) (i : Nat) z)
 have hfew := hzf.few
 have v0 : (0 : Int) ≤ (v : Int) := by omega
 have v1 : (v : Int) < (x.1.fr.vs.length : Int) := by omega
 have i0 : (0 : Int) ≤ (i : Int) := by omega
 have i1 : (i : Int) < (l.length : Int) := by omega
 clear h hzf q1 q2 q3 q5 q6 hv hvl
 generalize hbd : x.2.vb[v] = b at *
 generalize l[i] = z0 at *
 generalize x.1.fr.vs.length = vl at *
 generalize l.length = ll at *
 generalize x.2.c = vc at *
 go_enter Try.func79, Try.ntmps79
 go_wp2_with (first
  | (refine (unhide HT).mono ?_; rintro e5 w5 ⟨rfl, hb5⟩; have HB5 := hide hb5; obtain ⟨z1, z2, z3, z4⟩ := (unhide HC) _ hb5; clear hb5)
  | (refine ((unhide HS) _ (unhide HB5)).mono ?_; rintro e6 w6 ⟨rfl, tg6, ev6, hJ6⟩; have HJ6 := hide hJ6; clear hJ6))
 go_end0
 exact ⟨rfl, tg6, ev6, unhide HJ6⟩
end
end Go.Proofs.Ytcalcikclcmkaaa
namespace Go.Proofs.Ytcalcikclcmkaaa
open Go.RowKit
set_option linter.unusedVariables false
structure Mc.Nv (W wr : World) (sz : List Int) (i : Nat) (rv : Value) (vb : List Nat) (svs : List Value) : Prop where
 bel : Below W.heap.size W wr
 vlen : vb.length = i
 row : wr.ownsRow W.heap.size 37 1 rv i svs
 at_ : ∀ (k b : Nat), vb[k]? = some b → ∃ z : Int, sz[k]? = some z ∧ svs[k]? = some (Value.slice (some ⟨b, 0, none⟩) (Xr.szN z) (Xr.szN z)) ∧ wr.heap[b]? = some (Obj.cells (madeCells #[.int .i64 0] (Xr.szN z)) 3)
 nd : vb.Nodup
 ge : ∀ b ∈ vb, W.heap.size ≤ b ∧ b < wr.heap.size
 rvn : ∀ q, rv.ownBlock = some q → q ∉ vb
theorem Mc.Nv.next {W wr W2 w6 : World} {sz : List Int} {i : Nat} {rv : Value} {vb : List Nat} {svs : List Value} (h : Mc.Nv W wr sz i rv vb svs) {z : Int} (hz : sz[i]? = some z) (hb : Below wr.heap.size wr W2) (hnew : W2.heap[wr.heap.size]? = some (Obj.cells (madeCells #[.int .i64 0] (Xr.szN z)) 3)) (hg : W2.grownBy w6 rv.ownBlock) (g c : Nat)
  (ho : w6.ownsRow W.heap.size 37 1 (.slice (some ⟨g, 0, none⟩) (i + 1) c) (i + 1) (svs ++ [.slice (some ⟨wr.heap.size, 0, none⟩) (Xr.szN z) (Xr.szN z)])) (hat : rv.ownBlock = some g ∨ g = W2.heap.size) :
  Mc.Nv W w6 sz (i + 1) (.slice (some ⟨g, 0, none⟩) (i + 1) c) (vb ++ [wr.heap.size]) (svs ++ [.slice (some ⟨wr.heap.size, 0, none⟩) (Xr.szN z) (Xr.szN z)]) := by
 have hz2 := hb.size
 have hl := h.bel.size
 have hnl : wr.heap.size < W2.heap.size := (Array.getElem?_eq_some_iff.1 hnew).1
 have hrl : ∀ q, rv.ownBlock = some q → W.heap.size ≤ q ∧ q < wr.heap.size := fun q hq => h.row.lt q hq
 have hsvl : svs.length = i := by have := h.row.1; omega
 have hvo : ∀ b ∈ vb, w6.heap[b]? = wr.heap[b]? := fun b hbm => by
  have h1 := h.ge b hbm
  exact (hg.block b (by omega) (fun e => h.rvn b e.symm hbm)).trans (hb.block b h1.2)
 have hnw : w6.heap[wr.heap.size]? = some (Obj.cells (madeCells #[.int .i64 0] (Xr.szN z)) 3) := (hg.block _ hnl (fun e => by have := (hrl _ e.symm).2; omega)).trans hnew
 have hgs : w6.heap.size ≥ W2.heap.size := hg.size
 refine ⟨⟨hg.os.trans (hb.os.trans h.bel.os), hg.tape.trans (hb.tape.trans h.bel.tape), hg.output.trans (hb.output.trans h.bel.output), by omega, fun q hq => (hg.block q (by omega) (fun e => by have := (hrl _ e.symm).1; omega)).trans ((hb.block q (by omega)).trans (h.bel.block q hq))⟩, by rw [List.length_append, h.vlen]; rfl, ho, ?_, ?_, ?_, ?_⟩
 · intro k b hkb
   by_cases hk : k < i
   · rw [List.getElem?_append_left (by rw [h.vlen]; exact hk)] at hkb
     obtain ⟨y, y1, y2, y3⟩ := h.at_ k b hkb
     exact ⟨y, y1, by rw [List.getElem?_append_left (by omega)]; exact y2, (hvo b (List.mem_of_getElem? hkb)).trans y3⟩
   · have hke : k = i := by
      have := (List.getElem?_eq_some_iff.1 hkb).1
      rw [List.length_append, h.vlen] at this
      simp at this
      omega
     subst hke
     rw [List.getElem?_append_right (by rw [h.vlen]; exact Nat.le_refl _), h.vlen, Nat.sub_self] at hkb
     cases hkb
     exact ⟨z, hz, by rw [List.getElem?_append_right (by omega), hsvl, Nat.sub_self]; rfl, hnw⟩
 · rw [List.nodup_append]
   exact ⟨h.nd, by simp, fun a ha b hb' => by simp at hb'; subst hb'; have := (h.ge a ha).2; omega⟩
 · intro b hbm
   rcases List.mem_append.1 hbm with hbm | hbm
   · have := h.ge b hbm; omega
   · simp at hbm; subst hbm; omega
 · intro q hq hin
   cases hq
   have hin2 : g ∈ vb ++ [wr.heap.size] := hin
   rcases List.mem_append.1 hin2 with hin2 | hin2
   · rcases hat with e | e
     · exact h.rvn g e hin2
     · have := (h.ge g hin2).2; omega
   · simp at hin2
     rcases hat with e | e
     · have := (hrl g e).2; omega
     · omega
theorem Mc.Nv.done {W wr : World} {sz : List Int} {i : Nat} {ra : Option Addr} {rc : Nat} {vb : List Nat} {svs : List Value} (h : Mc.Nv W wr sz i (.slice ra i rc) vb svs) (hi : i = sz.length) (hi2 : i ≤ 100) (hs : ∀ z ∈ sz, z ≤ 100) :
  ∃ gv, ra = gv.map (fun g => ⟨g, 0, none⟩) ∧ Xr.Zf wr W.heap.size gv vb rc (Xr.zeros sz) := by
 have hvl : (Xr.zeros sz).length = i := by unfold Xr.zeros; rw [List.length_map, hi]
 have hat : ∀ (k b : Nat) (l : List Int), vb[k]? = some b → (Xr.zeros sz)[k]? = some l → ∃ z, sz[k]? = some z ∧ l = List.replicate (Xr.szN z) 0 ∧ svs[k]? = some (Value.slice (some ⟨b, 0, none⟩) l.length (Xr.szN z)) ∧ wr.heap[b]? = some (Obj.cells (madeCells #[.int .i64 0] (Xr.szN z)) 3) := by
  intro k b l hb hl'
  obtain ⟨z, z1, z2, z3⟩ := h.at_ k b hb
  have hl2 : (sz.map fun n => List.replicate (max n 1).toNat (0 : Int))[k]? = some l := hl'
  rw [List.getElem?_map, z1] at hl2
  have hl3 : l = List.replicate (Xr.szN z) 0 := by simpa [Xr.szN] using hl2.symm
  exact ⟨z, z1, hl3, by rw [hl3, List.length_replicate]; exact z2, z3⟩
 have hcell : ∀ (b : Nat) (n : Nat), wr.heap[b]? = some (Obj.cells (madeCells #[.int .i64 0] n) 3) → (∀ j y, (List.replicate n (0 : Int))[j]? = some y → wr.cell? ⟨b, j, none⟩ = some (.int .i64 y)) ∧ ∀ j, wr.frozen? ⟨b, j, none⟩ = false := by
  intro b n hb
  constructor
  · intro j y hj
    rw [cell_of_row wr b j _ 3 (0, 0) hb, ← Array.getElem?_toList, toList_madeCells_one]
    obtain ⟨hlt, hy⟩ := List.getElem?_eq_some_iff.1 hj
    rw [List.getElem_replicate] at hy
    rw [List.length_replicate] at hlt
    rw [List.getElem?_replicate, if_pos hlt, ← hy]
  · intro j
    simp [World.frozen?, hb]
 rcases h.row.2 with ⟨hrv, hi0⟩ | ⟨g, cap, cur, hrv, hg1, hg2, hg3, hg4, hg5, hg6⟩
 · have hvb : vb = [] := List.eq_nil_of_length_eq_zero (by rw [h.vlen]; exact hi0)
   subst hvb
   cases hrv
   refine ⟨none, rfl, ⟨fun q hq => by simp at hq, by simp, by rw [hvl]; omega, by rw [hvl, h.vlen], by rw [hvl]; omega, fun k b l hb => by simp at hb⟩⟩
 · cases hrv
   have hown := h.row
   have hgl := hown.lt g rfl
   refine ⟨some g, rfl, ⟨?_, ?_, by rw [hvl]; exact hg3, by rw [hvl, h.vlen], by rw [hvl]; omega, ?_⟩⟩
   · intro q hq
     simp at hq
     rcases hq with hq | hq
     · omega
     · have := h.ge q hq; omega
   · simp
     exact ⟨fun e => h.rvn g rfl e, h.nd⟩
   · intro k b l hb hl'
     obtain ⟨z, z1, z2, z3, z4⟩ := hat k b l hb hl'
     obtain ⟨q1, q2⟩ := hcell b (Xr.szN z) z4
     have hcl := hown.cells (g := g) rfl k _ z3
     rw [Xr.add_at] at hcl
     have hzl := hs z (List.mem_of_getElem? z1)
     have hll : l.length = Xr.szN z := by rw [z2, List.length_replicate]
     have hzn : Xr.szN z ≤ 100 := by unfold Xr.szN; omega
     exact ⟨g, Xr.szN z, rfl, by simpa using hcl, by omega, by omega, fun j y hj => q1 j y (by rw [← z2]; exact hj), q2⟩
theorem ZeroVars_any (ta : Option Addr) (tn tc : Nat) (sz : List Int) (W : World) (hr : Pg.RN W ⟨ta, tn, tc⟩ sz) (hlen : sz.length ≤ 100) (hs : ∀ z ∈ sz, 0 ≤ z ∧ z ≤ 100) :
  Calls Try.prog 38 #[.slice ta tn tc] W fun r W' => ∃ gv vb c, r = .returned (.slice (gv.map fun g => ⟨g, 0, none⟩) sz.length c) ∧ Xr.Zf W' W.heap.size gv vb c (Xr.zeros sz) ∧ Below W.heap.size W W' := by
 have htn : tn = sz.length := hr.len
 obtain ⟨i0, hi0, hz0, hz1', hz2⟩ := info_of Try.infoIs
 have HI := hide hi0
 have HZ0 := hide hz0
 have HZ1 := hide hz1'
 have HZ2 := hide hz2
 have HR := hide hr
 have HS := hide hs
 have HTN := hide htn
 have htl : tn ≤ 100 := by omega
 clear hi0 hz0 hz1' hz2 hr hs htn
 go_enter Try.func38, Try.ntmps38
 go_wp2_with fail
 go_loopw [3, 4] (fun ov iv wr => ∃ (i : Nat) (ra : Option Addr) (rc : Nat) (vb : List Nat) (svs : List Value), i ≤ tn ∧ iv = .int .i64 i ∧ ov = .slice ra i rc ∧ Mc.Nv W wr sz i (.slice ra i rc) vb svs) (fun _ iv _ => tn - (intOf iv).toNat)
 case atStart => exact ⟨0, none, 0, [], [], Nat.zero_le _, rfl, rfl, Below.refl _ _, rfl, ⟨rfl, .inl ⟨rfl, rfl⟩⟩, fun k b hb => by simp at hb, List.nodup_nil, fun b hb => by simp at hb, fun q hq => by cases hq⟩
 case round =>
  obtain ⟨i, ra, rc, vb, svs, hi, rfl, rfl, hnw⟩ := hrel
  by_cases hlt : i < tn
  · have hlt2 : i < sz.length := by have := unhide HTN; omega
    have hy := List.getElem?_eq_getElem hlt2
    obtain ⟨b, o, had, hb, hc⟩ := (unhide HR).at_ i _ hy
    have hzz := (unhide HS) _ (List.getElem_mem hlt2)
    have p0 := (hnw.bel.cell (p := ⟨b, o + i, none⟩) hb).trans hc
    have HROW := hide hnw.row
    have HNX := hide (fun (W2 w6 : World) (h1 : Below wr.heap.size wr W2) (h2 : W2.heap[wr.heap.size]? = some (Obj.cells (madeCells #[.int .i64 0] (Xr.szN sz[i])) 3)) (h3 : W2.grownBy w6 (Value.slice ra i rc).ownBlock) (g c : Nat) (h4 : w6.ownsRow W.heap.size 37 1 (.slice (some ⟨g, 0, none⟩) (i + 1) c) (i + 1) (svs ++ [.slice (some ⟨wr.heap.size, 0, none⟩) (Xr.szN sz[i]) (Xr.szN sz[i])])) (h5 : (Value.slice ra i rc).ownBlock = some g ∨ g = W2.heap.size) => hnw.next hy h1 h2 h3 g c h4 h5)
    have hsn : ((Xr.szN sz[i] : Nat) : Int) = max sz[i] 1 := by unfold Xr.szN; omega
    have hsb : Xr.szN sz[i] ≤ 100 := by unfold Xr.szN; omega
    have hbs := hnw.bel.size
    generalize Xr.szN sz[i] = n at *
    generalize sz[i] = z at *
    have hmk : ∀ (V : World) (y : Int), y = (n : Int) → (Instr.makeSlice 37 (.int .i64 y) (.int .i64 y)).run Try.prog V = .ok (.slice (some ⟨V.heap.size, 0, none⟩) n n) (V.alloc (.cells (madeCells #[.int .i64 0] n) 3)) := by
     intro V y hy
     rw [hy]
     exact run_make_row' (P := Try.prog) 37 3 (.int .i64 0) 8 Try.underlying37 Try.infoI3 rfl .i64 .i64 n (by omega) (by omega) V
    have had' : ta = some ⟨b, o, none⟩ := had
    subst had'
    clear had hc hy hnw
    have hi0' : (0 : Int) ≤ (i : Int) := by omega
    have hi1 : (i : Int) < (tn : Int) := by omega
    have HBD := hide (show Below wr.heap.size wr ((wr.alloc (Obj.cells (madeCells #[.int .i64 0] n) 3)).alloc (Obj.cells #[.slice (some ⟨wr.heap.size, 0, none⟩) n n] 37)) from (((Below.refl wr.heap.size wr).alloc (Nat.le_refl _) _).alloc (by simp) _))
    have HNW := hide (show ∀ j u, [Value.slice (some ⟨wr.heap.size, 0, none⟩) n n][j]? = some u → ((wr.alloc (Obj.cells (madeCells #[.int .i64 0] n) 3)).alloc (Obj.cells #[.slice (some ⟨wr.heap.size, 0, none⟩) n n] 37)).cell? ((⟨wr.heap.size + 1, 0, none⟩ : Addr).add j) = some u from by
     have h1 := heap_alloc_new (wr.alloc (Obj.cells (madeCells #[.int .i64 0] n) 3)) (Obj.cells #[.slice (some ⟨wr.heap.size, 0, none⟩) n n] 37)
     have h2 : (wr.alloc (Obj.cells (madeCells #[.int .i64 0] n) 3)).heap.size = wr.heap.size + 1 := by simp
     rw [h2] at h1
     exact World.news_of_block h1)
    have HM := hide (show ((wr.alloc (Obj.cells (madeCells #[.int .i64 0] n) 3)).alloc (Obj.cells #[.slice (some ⟨wr.heap.size, 0, none⟩) n n] 37)).heap[wr.heap.size]? = some (Obj.cells (madeCells #[.int .i64 0] n) 3) from by
     have h1 := heap_alloc_new wr (Obj.cells (madeCells #[.int .i64 0] n) 3)
     have h2 := ((Below.refl (wr.alloc (Obj.cells (madeCells #[.int .i64 0] n) 3)).heap.size (wr.alloc (Obj.cells (madeCells #[.int .i64 0] n) 3))).alloc (Nat.le_refl _) (Obj.cells #[.slice (some ⟨wr.heap.size, 0, none⟩) n n] 37)).block wr.heap.size (by simp)
     exact h2.trans h1)
    by_cases hz0 : z = 0
    · have hmk1 := fun V => hmk V 1 (by omega)
      subst hz0
      clear hsn hmk
      go_wp2_with (at_builtin; refine wpList_append_lies _ (by rfl) _ _ _ (by rfl) W.heap.size 37 i0 _ 1 24 Try.underlying25 (unhide HI) (unhide HZ0) (unhide HZ1) (unhide HZ2) rfl (by omega) (.slice ra i rc) i svs (by rfl) (Pg.ow_below (unhide HROW) (unhide HBD)) ⟨wr.heap.size + 1, 0, none⟩ 1 1 [.slice (some ⟨wr.heap.size, 0, none⟩) n n] (by rfl) (by rfl) (unhide HNW) (by simp [Value.oneCell']) (by omega) (by unfold maxLen; omega) (by omega) (by simp; omega) (wr.heap.size + 2) (by simp) ?_; intro gA cA w6 hoA hgA hatA hltA; have HOA := hide hoA; have HGA := hide hgA; have HAT := hide hatA; clear hoA hgA hatA hltA)
      exact ⟨⟨i + 1, _, _, _, _, by omega, by go_num, rfl, (unhide HNX) _ _ (unhide HBD) (unhide HM) (unhide HGA) _ _ (unhide HOA) (by have := unhide HAT; simpa using this)⟩, by simp [intOf]; omega⟩
    · have hmk1 := fun V => hmk V z (by omega)
      have bz : (z == 0) = false := by simpa using hz0
      clear hsn hmk hz0
      go_wp2_with (at_builtin; refine wpList_append_lies _ (by rfl) _ _ _ (by rfl) W.heap.size 37 i0 _ 1 24 Try.underlying25 (unhide HI) (unhide HZ0) (unhide HZ1) (unhide HZ2) rfl (by omega) (.slice ra i rc) i svs (by rfl) (Pg.ow_below (unhide HROW) (unhide HBD)) ⟨wr.heap.size + 1, 0, none⟩ 1 1 [.slice (some ⟨wr.heap.size, 0, none⟩) n n] (by rfl) (by rfl) (unhide HNW) (by simp [Value.oneCell']) (by omega) (by unfold maxLen; omega) (by omega) (by simp; omega) (wr.heap.size + 2) (by simp) ?_; intro gA cA w6 hoA hgA hatA hltA; have HOA := hide hoA; have HGA := hide hgA; have HAT := hide hatA; clear hoA hgA hatA hltA)
      exact ⟨⟨i + 1, _, _, _, _, by omega, by go_num, rfl, (unhide HNX) _ _ (unhide HBD) (unhide HM) (unhide HGA) _ _ (unhide HOA) (by have := unhide HAT; simpa using this)⟩, by simp [intOf]; omega⟩
  · have hie : i = tn := by omega
    subst hie
    obtain ⟨gv, rfl, hzf⟩ := hnw.done (unhide HTN) (by omega) (fun z hz => ((unhide HS) z hz).2)
    have HZF := hide hzf
    have HBB := hide hnw.bel
    have hi1 : ¬ (i : Int) < (i : Int) := by omega
    clear hnw hzf
    go_wp2_with fail
    go_ret
    exact ⟨gv, vb, rc, by rw [← unhide HTN]; rfl, unhide HZF, unhide HBB⟩
end Go.Proofs.Ytcalcikclcmkaaa
namespace Go.Proofs.Ytcalcikclcmkaaa
open Go.RowKit
set_option linter.unusedVariables false
theorem Count_any {m : Nat} : ∀ (n : Nat) (s : Pg.Sl) (l : List (Pg.CT m n)) (w : World), Pg.RS w 12 (Pg.LC w) (Pg.RC w m n) s l → Pg.cnts l ≤ 1000 →
  Calls Try.prog 73 #[.slice s.ad s.len s.cap] w fun r w' => r = .returned (.int .i64 (Pg.cnts l : Nat)) ∧ Below w.heap.size w w' := by
 intro n
 induction n with
 | zero =>
  intro s l w hs hc
  cases l with
  | cons y r => exact Empty.elim y
  | nil =>
   have hlen := hs.len
   have hl0 : s.len = 0 := by rw [hlen]; rfl
   have HC := hide (show Pg.cnts ([] : List (Pg.CT m 0)) = 0 from rfl)
   generalize Pg.cnts ([] : List (Pg.CT m 0)) = R at *
   clear hs hlen hc
   obtain ⟨sa, sl, sc⟩ := s
   dsimp only at *
   subst hl0
   go_enter Try.func73, Try.ntmps73
   go_wp2_with fail
   go_loopw [3, 4] (fun nv iv wr => nv = .int .i64 0 ∧ iv = .int .i64 0 ∧ wr = w) (fun _ _ _ => 0)
   case atStart => exact ⟨rfl, rfl, rfl⟩
   case round =>
    obtain ⟨rfl, rfl, rfl⟩ := hrel
    go_wp2_with fail
    go_ret
    exact ⟨ret_int (by rw [unhide HC]; rfl), Below.refl _ _⟩
 | succ n ih =>
  intro s l w hs hc
  have hlen := hs.len
  have hfew := hs.few
  rw [← hlen] at hfew
  have HSA := hide (Pg.sumTo_all (Pg.cnt (n + 1)) l)
  have HSL := hide (Pg.sumTo_le (Pg.cnt (n + 1)) l)
  obtain ⟨R, hR⟩ : ∃ R, R = Pg.cnts l := ⟨_, rfl⟩
  rw [← hR]
  have HR := hide (show R = (l.map (Pg.cnt (n + 1))).sum from hR)
  have hRc : R ≤ 1000 := by omega
  have HS := hide hs
  have HLN := hide hlen
  have IH := hide ih
  clear hs hlen ih hc hR
  obtain ⟨sa, sl, sc⟩ := s
  dsimp only at *
  go_enter Try.func73, Try.ntmps73
  go_wp2_with fail
  go_loopw [3, 4] (fun nv iv wr => ∃ (i k : Nat), i ≤ sl ∧ iv = .int .i64 i ∧ nv = .int .i64 ((k : Nat) : Int) ∧ k ≤ 1000 ∧ Hid (k = Pg.sumTo (Pg.cnt (n + 1)) l i) ∧ Below w.heap.size w wr) (fun _ iv _ => sl - (intOf iv).toNat)
  case atStart => exact ⟨0, 0, Nat.zero_le _, rfl, rfl, by omega, by show _ = _; rfl, Below.refl _ _⟩
  case round =>
   obtain ⟨i, k, hi, rfl, rfl, hk, hkk, hbe⟩ := hrel
   have hz := hbe.size
   have HBE := hide hbe
   have HK := hide (unhide hkk)
   clear hbe hkk
   by_cases hlt : i < sl
   · have hlt2 : i < l.length := by have := unhide HLN; omega
     have hy := List.getElem?_eq_getElem hlt2
     obtain ⟨b, o, cc, had, hb, hlies, hrd⟩ := (unhide HS).at_ i _ hy
     have HSU := hide (Pg.sumTo_succ (Pg.cnt (n + 1)) l i _ hy)
     have HLE := hide ((unhide HSL) (i + 1) (by omega))
     generalize l[i] = y at *
     have hyi : Pg.cnt (n + 1) y = 1 + Pg.cnts y.2.2.1 + Pg.cnts y.2.2.2 := rfl
     have hsum : k + (1 + (Pg.cnts y.2.2.1 + Pg.cnts y.2.2.2)) ≤ R := by
      have h1 := unhide HSU
      have h2 := unhide HLE
      have h3 := unhide HK
      have h4 := unhide HR
      omega
     have HNX := hide (show k + (1 + (Pg.cnts y.2.2.1 + Pg.cnts y.2.2.2)) = Pg.sumTo (Pg.cnt (n + 1)) l (i + 1) by
      have h1 := unhide HSU
      have h3 := unhide HK
      omega)
     have HT := hide (fun (W : World) (hW : Below w.heap.size w W) => show Calls Try.prog 73 #[.slice cc.thn.ad cc.thn.len cc.thn.cap] W fun r w' => r = .returned (.int .i64 (Pg.cnts y.2.2.1 : Nat)) ∧ Below W.heap.size W w' from (unhide IH) cc.thn y.2.2.1 W (hrd.2.2.1.laterC hW (Nat.le_refl _)) (by omega))
     have HE := hide (fun (W : World) (hW : Below w.heap.size w W) => show Calls Try.prog 73 #[.slice cc.els.ad cc.els.len cc.els.cap] W fun r w' => r = .returned (.int .i64 (Pg.cnts y.2.2.2 : Nat)) ∧ Below W.heap.size W w' from (unhide IH) cc.els y.2.2.2 W (hrd.2.2.2.laterC hW (Nat.le_refl _)) (by omega))
     generalize Pg.cnts y.2.2.1 = C1 at *
     generalize Pg.cnts y.2.2.2 = C2 at *
     have hw1 : IntKind.i64.wrap (1 + (C1 : Int)) = 1 + (C1 : Int) := Xr.wrap_id (by omega) (by omega)
     have hw2 : IntKind.i64.wrap (1 + (C1 : Int) + (C2 : Int)) = 1 + (C1 : Int) + (C2 : Int) := Xr.wrap_id (by omega) (by omega)
     have hw3 : IntKind.i64.wrap ((k : Int) + (1 + (C1 : Int) + (C2 : Int))) = (k : Int) + (1 + (C1 : Int) + (C2 : Int)) := Xr.wrap_id (by omega) (by omega)
     have HKM := hide (show ∀ V : World, Below w.heap.size w V → (V.cell? ⟨b, o + i * 12 + 10, none⟩ = some (.slice cc.thn.ad cc.thn.len cc.thn.cap) ∧ V.cell? ⟨b, o + i * 12 + 11, none⟩ = some (.slice cc.els.ad cc.els.len cc.els.cap) ∧ Below w.heap.size w V) from fun V hV => ⟨(hlies.later hV (Nat.le_refl _) hb).c10, (hlies.later hV (Nat.le_refl _) hb).c11, hV⟩)
     clear hlies hrd hy hyi hb
     have hi0 : (0 : Int) ≤ (i : Int) := by omega
     have hi1 : (i : Int) < (sl : Int) := by omega
     have had' : sa = some ⟨b, o, none⟩ := had
     subst had'
     clear had
     go_upto_region 5 with fail
     go_region_held3 (fun V => V.cell? ⟨b, o + i * 12 + 10, none⟩ = some (.slice cc.thn.ad cc.thn.len cc.thn.cap) ∧ V.cell? ⟨b, o + i * 12 + 11, none⟩ = some (.slice cc.els.ad cc.els.len cc.els.cap) ∧ Below w.heap.size w V)
      (first | assumption | exact (unhide HKM) _ ((unhide HBE).drew) | exact (unhide HKM) _ (Below.trans (And.right (And.right (by assumption))) ((unhide HB5).mono (Below.size (And.right (And.right (by assumption)))))))
      (first
       | (go_at_call_of 73 (Value.slice cc.thn.ad cc.thn.len cc.thn.cap); refine ((unhide HT) _ ?_).mono ?_; exact And.right (And.right (by assumption)); rintro r w5 ⟨rfl, hb5⟩; have HB5 := hide hb5; clear hb5)
       | (go_at_call_of 73 (Value.slice cc.els.ad cc.els.len cc.els.cap); refine ((unhide HE) _ ?_).mono ?_; exact And.right (And.right (by assumption)); rintro r w5 ⟨rfl, hb5⟩; have HB5 := hide hb5; clear hb5))
     all_goals
      go_wp2_with fail
      exact ⟨⟨i + 1, k + (1 + (C1 + C2)), by omega, by go_num, by go_num, by omega, by show _ = _; exact unhide HNX, And.right (And.right (by assumption))⟩, by simp [intOf]; omega⟩
   · have HF := hide (show k = R by
      have h1 := unhide HK
      have h2 := unhide HSA
      have e1 : i = l.length := by have := unhide HLN; omega
      rw [e1, h2] at h1
      have h4 := unhide HR
      omega)
     have hi1 : ¬ (i : Int) < (sl : Int) := by omega
     go_wp2_with fail
     go_ret
     exact ⟨ret_int (by rw [unhide HF]), unhide HBE⟩
theorem FirstCmd_any {m n : Nat} (qa : Option Addr) (ql qc : Nat) (p : List (Pg.FT m n)) (w : World) (hp : Pg.RP w m n ⟨qa, ql, qc⟩ p) (q : Nat) (hq : q ≤ p.length) (ht : (p.map fun x => Pg.cnts x.cmds).sum ≤ 1000) :
  Calls Try.prog 40 #[.agg #[.slice qa ql qc], .int .i64 (q : Nat)] w fun r w' => r = .returned (.int .i64 (Xr.firstOf p q : Nat)) ∧ Below w.heap.size w w' := by
 have hb0 := (Below.refl w.heap.size w).alloc (Nat.le_refl _) (Obj.cells #[.slice qa ql qc] 36)
 have hql : ql = p.length := hp.len
 have hqf : ql ≤ 35184372088832 := by rw [hql]; exact hp.few
 have p0 : (w.alloc (Obj.cells #[.slice qa ql qc] 36)).cell? ⟨w.heap.size, 0, none⟩ = some (.slice qa ql qc) := by go_simp
 have hlp : w.heap.size < (w.alloc (Obj.cells #[.slice qa ql qc] 36)).heap.size := by simp
 obtain ⟨R, hR⟩ : ∃ R, R = Xr.firstOf p q := ⟨_, rfl⟩
 rw [← hR]
 have HR := hide hR
 have HP := hide hp
 have HT := hide ht
 have HSL := hide (Pg.sumTo_le (fun x : Pg.FT m n => Pg.cnts x.cmds) p)
 have HQL := hide hql
 have HB0 := hide hb0
 have hq2 : q ≤ ql := by omega
 clear hR hp ht hql hb0 hq
 go_enter Try.func40, Try.ntmps40
 go_wp2_with fail
 generalize w.alloc (Obj.cells #[.slice qa ql qc] 36) = W0 at *
 go_loopw [5, 6] (fun nv iv wr => ∃ (i k : Nat), i ≤ q ∧ iv = .int .i64 i ∧ nv = .int .i64 ((k : Nat) : Int) ∧ k ≤ 1000 ∧ Hid (k = Xr.firstOf p i) ∧ Below W0.heap.size W0 wr) (fun _ iv _ => q - (intOf iv).toNat)
 case atStart => exact ⟨0, 0, Nat.zero_le _, rfl, rfl, by omega, by show _ = _; rfl, Below.refl _ _⟩
 case round =>
  obtain ⟨i, k, hi, rfl, rfl, hk, hkk, hbe⟩ := hrel
  have hz := hbe.size
  have HBE := hide hbe
  have HK := hide (unhide hkk)
  have hbw := (unhide HB0).trans (hbe.mono (unhide HB0).size)
  have z0 := (hbe.cell (p := ⟨w.heap.size, 0, none⟩) hlp).trans p0
  by_cases hlt : i < q
  · have hlt2 : i < p.length := by have := unhide HQL; omega
    have hy := List.getElem?_eq_getElem hlt2
    obtain ⟨b, o, ff, had, hb, hlf, hrf⟩ := (unhide HP).at_ i _ hy
    have HSU := hide (show Xr.firstOf p (i + 1) = Xr.firstOf p i + Pg.cnts p[i].cmds from Pg.sumTo_succ (fun x : Pg.FT m n => Pg.cnts x.cmds) p i _ hy)
    have hle : Xr.firstOf p (i + 1) ≤ 1000 := Nat.le_trans ((unhide HSL) (i + 1) (by omega)) (unhide HT)
    generalize p[i] = y at *
    have hk2 : k + Pg.cnts y.cmds ≤ 1000 := by
     have h1 := unhide HSU
     have h2 := unhide HK
     omega
    have HC := hide (show Calls Try.prog 73 #[.slice ff.cmds.ad ff.cmds.len ff.cmds.cap] wr fun r w' => r = .returned (.int .i64 (Pg.cnts y.cmds : Nat)) ∧ Below wr.heap.size wr w' from Count_any n ff.cmds y.cmds wr (hrf.cmds.laterC hbw (Nat.le_refl _)) (by omega))
    have HNX := hide (show k + Pg.cnts y.cmds = Xr.firstOf p (i + 1) by rw [unhide HSU, unhide HK])
    have z2 := (hlf.later hbw (Nat.le_refl _) hb).c2
    generalize Pg.cnts y.cmds = C1 at *
    have hw3 : IntKind.i64.wrap ((k : Int) + (C1 : Int)) = (k : Int) + (C1 : Int) := Xr.wrap_id (by omega) (by omega)
    have hi0 : (0 : Int) ≤ (i : Int) := by omega
    have hi1 : (i : Int) < (ql : Int) := by omega
    have hi2 : (i : Int) < (q : Int) := by omega
    have had' : qa = some ⟨b, o, none⟩ := had
    subst had'
    clear had hlf hrf hy hle hbe hbw hkk
    go_wp2_with (refine (unhide HC).mono ?_; rintro r w5 ⟨rfl, hb5⟩; have HB5 := hide hb5; clear hb5)
    exact ⟨⟨i + 1, k + C1, by omega, by go_num, by go_num, by omega, by show _ = _; exact unhide HNX, (unhide HBE).trans ((unhide HB5).mono (unhide HBE).size)⟩, by simp [intOf]; omega⟩
  · have HF := hide (show k = R by
     have h1 := unhide HK
     have e1 : i = q := by omega
     rw [h1, e1]
     exact (unhide HR).symm)
    have hi1 : ¬ (i : Int) < (q : Int) := by omega
    have HBW := hide hbw
    clear hbe hkk hbw
    go_wp2_with fail
    go_ret
    exact ⟨ret_int (by rw [unhide HF]), unhide HBW⟩
end Go.Proofs.Ytcalcikclcmkaaa
