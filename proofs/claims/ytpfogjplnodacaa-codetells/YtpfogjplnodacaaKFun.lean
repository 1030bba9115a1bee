/-
  A compiler with its functions' beginnings and sizes, in memory. By the verifier.
-/
import Derived.Test.YtpfogjplnodacaaKClone
import Derived.Test.YtpfogjplnodacaaKGo
import Derived.Deep.Onto
namespace Go.Proofs.Ytpfogjplnodacaa
open Go.RowKit
set_option linter.unusedVariables false
theorem Try.infoSz : (Try.prog.info? 23).map (fun i => (i.zero, i.size, i.bytes)) = some (some (.slice none 0 0), 1, 24) := by kernel_rfl
def Kd.sv (t : Pg.Sl) : Value := .slice t.ad t.len t.cap
structure Kd.Sz (w0 W : World) (bc : Nat) (rv fv gv : Value) (t : Pg.Sl) (s : List Int) : Prop where
 len : t.len = s.length
 row : W.ownsRow w0.heap.size 3 1 (Kd.sv t) s.length (s.map (Value.int .i64))
 ap : ∀ q, (Kd.sv t).ownBlock = some q → q ≠ bc ∧ rv.ownBlock ≠ some q ∧ fv.ownBlock ≠ some q ∧ gv.ownBlock ≠ some q
structure Kd.N (w0 W : World) (bc : Nat) (rv fv gv : Value) (l : List Kd.I) (a : Nat) (fs : List Int) (ts : List Pg.Sl) (ss : List (List Int)) : Prop where
 m : Kd.M w0 W bc rv l a
 c1 : W.cell? ⟨bc, 1, none⟩ = some fv
 c2 : W.cell? ⟨bc, 2, none⟩ = some gv
 frow : W.ownsRow w0.heap.size 3 1 fv fs.length (fs.map (Value.int .i64))
 grow : W.ownsRow w0.heap.size 23 1 gv ts.length (ts.map Kd.sv)
 tl : ts.length = ss.length
 at_ : ∀ (i : Nat) (t : Pg.Sl) (s : List Int), ts[i]? = some t → ss[i]? = some s → Kd.Sz w0 W bc rv fv gv t s
 fap : ∀ q, fv.ownBlock = some q → q ≠ bc ∧ rv.ownBlock ≠ some q ∧ gv.ownBlock ≠ some q
 gap : ∀ q, gv.ownBlock = some q → q ≠ bc ∧ rv.ownBlock ≠ some q
section
variable {w0 W W' : World} {bc : Nat} {rv rv' fv gv : Value} {l l' : List Kd.I} {a a' : Nat} {fs : List Int} {ts : List Pg.Sl} {ss : List (List Int)}
theorem Kd.N.step (h : Kd.N w0 W bc rv fv gv l a fs ts ss) (hm : Kd.M w0 W' bc rv' l' a') (hk : Kd.Kp bc rv rv' W W') : Kd.N w0 W' bc rv' fv gv l' a' fs ts ss := by
 have new : ∀ q, q < W.heap.size → rv.ownBlock ≠ some q → rv'.ownBlock ≠ some q := fun q hq h1 e => (hk.own q e).elim h1 (fun h2 => by omega)
 have kf : ∀ q, fv.ownBlock = some q → W'.heap[q]? = W.heap[q]? := fun q hq => hk.blk q (h.frow.lt q hq).2 (h.fap q hq).1 (h.fap q hq).2.1
 have kg : ∀ q, gv.ownBlock = some q → W'.heap[q]? = W.heap[q]? := fun q hq => hk.blk q (h.grow.lt q hq).2 (h.gap q hq).1 (h.gap q hq).2
 refine ⟨hm, hk.c1.trans h.c1, hk.c2.trans h.c2, Kd.ow_kept h.frow kf, Kd.ow_kept h.grow kg, h.tl, fun i t s ht hs => ?_, fun q hq => ⟨(h.fap q hq).1, new q (h.frow.lt q hq).2 (h.fap q hq).2.1, (h.fap q hq).2.2⟩, fun q hq => ⟨(h.gap q hq).1, new q (h.grow.lt q hq).2 (h.gap q hq).2⟩⟩
 have hz := h.at_ i t s ht hs
 exact ⟨hz.len, Kd.ow_kept hz.row (fun q hq => hk.blk q (hz.row.lt q hq).2 (hz.ap q hq).1 (hz.ap q hq).2.1), fun q hq => ⟨(hz.ap q hq).1, new q (hz.row.lt q hq).2 (hz.ap q hq).2.1, (hz.ap q hq).2.2⟩⟩
theorem Kd.N.below (h : Kd.N w0 W bc rv fv gv l a fs ts ss) (hb : Below W.heap.size W W') : Kd.N w0 W' bc rv fv gv l a fs ts ss := h.step (h.m.below hb) (Kd.Kp.below hb h.m.lt)
theorem Kd.N.addF {W2 w6 : World} {z : Int} (h : Kd.N w0 W bc rv fv gv l a fs ts ss) (hb : Below W.heap.size W W2) (hg : W2.grownBy w6 fv.ownBlock) (g c : Nat) (ho : w6.ownsRow w0.heap.size 3 1 (.slice (some ⟨g, 0, none⟩) (fs.length + 1) c) (fs.length + 1) (fs.map (Value.int .i64) ++ [.int .i64 z])) (hat : fv.ownBlock = some g ∨ W.heap.size ≤ g) :
  Kd.N w0 (w6.setCell ⟨bc, 1, none⟩ (.slice (some ⟨g, 0, none⟩) (fs.length + 1) c)) bc rv (.slice (some ⟨g, 0, none⟩) (fs.length + 1) c) gv l a (fs ++ [z]) ts ss ∧ ∀ q, q < W.heap.size → q ≠ bc → fv.ownBlock ≠ some q → (w6.setCell ⟨bc, 1, none⟩ (.slice (some ⟨g, 0, none⟩) (fs.length + 1) c)).heap[q]? = W.heap[q]? := by
 have hlt := h.m.lt
 have old : ∀ q, q < W.heap.size → q ≠ bc → fv.ownBlock ≠ some q → (w6.setCell ⟨bc, 1, none⟩ (.slice (some ⟨g, 0, none⟩) (fs.length + 1) c)).heap[q]? = W.heap[q]? := fun q hq h1 h2 => (Kd.set_other h1).trans ((hg.block q (Nat.lt_of_lt_of_le hq hb.size) (fun e => h2 e.symm)).trans (hb.block q hq))
 have nog : ∀ q, q < W.heap.size → fv.ownBlock ≠ some q → (Value.slice (some ⟨g, 0, none⟩) (fs.length + 1) c).ownBlock ≠ some q := fun q hq h2 e => by
  have e2 : g = q := Option.some.inj e
  rcases hat with h1 | h1
  · exact h2 (h1.trans (congrArg some e2))
  · omega
 have hfb : fv.ownBlock ≠ some bc := fun e => (h.fap bc e).1 rfl
 have hgb : g ≠ bc := fun e => nog bc hlt hfb (by rw [e]; rfl)
 have hbc : w6.heap[bc]? = W.heap[bc]? := (hg.block bc (Nat.lt_of_lt_of_le hlt hb.size) (fun e => hfb e.symm)).trans (hb.block bc hlt)
 have hb6 : Below w0.heap.size w0 w6 := Below.grown (h.m.bel.trans (hb.mono h.m.bel.size)) hg (Nat.le_trans h.m.bel.size hb.size) (fun q hq => (h.frow.lt q hq).1)
 have o1 : ∀ j, j ≠ 1 → (w6.setCell ⟨bc, 1, none⟩ (.slice (some ⟨g, 0, none⟩) (fs.length + 1) c)).cell? ⟨bc, j, none⟩ = W.cell? ⟨bc, j, none⟩ := fun j hj => (World.cell?_setCell_other _ _ _ _ (by intro hh; exact hj (congrArg Addr.off hh).symm)).trans (Kd.cell_kept hbc j)
 have hrf : ∀ q, rv.ownBlock = some q → fv.ownBlock ≠ some q := fun q hq e => (h.fap q e).2.1 hq
 refine ⟨?_, old⟩
 refine ⟨⟨hb6.setCell (p := ⟨bc, 1, none⟩) h.m.ge _, h.m.ge, (o1 0 (by omega)).trans h.m.c0, (o1 3 (by omega)).trans h.m.c3, fun i => by rw [World.frozen?_setCell]; exact (Kd.frz_kept hbc i).trans (h.m.fz i), Kd.ow_kept h.m.row (fun q hq => old q (h.m.row.lt q hq).2 (h.m.ap q hq) (hrf q hq)), h.m.ap⟩, World.cell?_setCell_same _ _ _ ((Kd.cell_kept hbc 1).trans h.c1), (o1 2 (by omega)).trans h.c2, ?_, Kd.ow_kept h.grow (fun q hq => old q (h.grow.lt q hq).2 (h.gap q hq).1 (fun e => (h.fap q e).2.2 hq)), h.tl, fun i t s ht hs => ?_, fun q hq => ?_, h.gap⟩
 · rw [List.length_append, List.map_append]
   exact Kd.ow_kept ho (fun q hq => by cases hq; exact Kd.set_other hgb)
 · have hz := h.at_ i t s ht hs
   exact ⟨hz.len, Kd.ow_kept hz.row (fun q hq => old q (hz.row.lt q hq).2 (hz.ap q hq).1 (hz.ap q hq).2.2.1), fun q hq => ⟨(hz.ap q hq).1, (hz.ap q hq).2.1, nog q (hz.row.lt q hq).2 (hz.ap q hq).2.2.1, (hz.ap q hq).2.2.2⟩⟩
 · refine ⟨by cases hq; exact hgb, fun e => nog q (h.m.row.lt q e).2 (hrf q e) hq, fun e => nog q (h.grow.lt q e).2 (fun e2 => (h.fap q e2).2.2 e) hq⟩
theorem Kd.N.addS {W1 W2 w6 : World} {t : Pg.Sl} {s : List Int} (h : Kd.N w0 W bc rv fv gv l a fs ts ss) (hb1 : Below W.heap.size W W1) (hr : W1.ownsRow W.heap.size 3 1 (Kd.sv t) s.length (s.map (Value.int .i64))) (htl : t.len = s.length) (hb2 : Below W1.heap.size W1 W2) (hg : W2.grownBy w6 gv.ownBlock) (g c : Nat) (ho : w6.ownsRow w0.heap.size 23 1 (.slice (some ⟨g, 0, none⟩) (ts.length + 1) c) (ts.length + 1) (ts.map Kd.sv ++ [Kd.sv t])) (hat : gv.ownBlock = some g ∨ W1.heap.size ≤ g) :
  Kd.N w0 (w6.setCell ⟨bc, 2, none⟩ (.slice (some ⟨g, 0, none⟩) (ts.length + 1) c)) bc rv fv (.slice (some ⟨g, 0, none⟩) (ts.length + 1) c) l a fs (ts ++ [t]) (ss ++ [s]) ∧ ∀ q, q < W.heap.size → q ≠ bc → gv.ownBlock ≠ some q → (w6.setCell ⟨bc, 2, none⟩ (.slice (some ⟨g, 0, none⟩) (ts.length + 1) c)).heap[q]? = W.heap[q]? := by
 have hb : Below W.heap.size W W2 := hb1.trans (hb2.mono hb1.size)
 have hlt := h.m.lt
 have old1 : ∀ q, q < W1.heap.size → q ≠ bc → gv.ownBlock ≠ some q → (w6.setCell ⟨bc, 2, none⟩ (.slice (some ⟨g, 0, none⟩) (ts.length + 1) c)).heap[q]? = W1.heap[q]? := fun q hq h1 h2 => (Kd.set_other h1).trans ((hg.block q (Nat.lt_of_lt_of_le hq hb2.size) (fun e => h2 e.symm)).trans (hb2.block q hq))
 have old : ∀ q, q < W.heap.size → q ≠ bc → gv.ownBlock ≠ some q → (w6.setCell ⟨bc, 2, none⟩ (.slice (some ⟨g, 0, none⟩) (ts.length + 1) c)).heap[q]? = W.heap[q]? := fun q hq h1 h2 => (old1 q (Nat.lt_of_lt_of_le hq hb1.size) h1 h2).trans (hb1.block q hq)
 have nog : ∀ q, q < W1.heap.size → gv.ownBlock ≠ some q → (Value.slice (some ⟨g, 0, none⟩) (ts.length + 1) c).ownBlock ≠ some q := fun q hq h2 e => by
  have e2 : g = q := Option.some.inj e
  rcases hat with h1 | h1
  · exact h2 (h1.trans (congrArg some e2))
  · omega
 have hs1 := hb1.size
 have hgvb : gv.ownBlock ≠ some bc := fun e => (h.gap bc e).1 rfl
 have hgb : g ≠ bc := fun e => nog bc (by omega) hgvb (by rw [e]; rfl)
 have hbc : w6.heap[bc]? = W.heap[bc]? := (hg.block bc (Nat.lt_of_lt_of_le hlt hb.size) (fun e => hgvb e.symm)).trans (hb.block bc hlt)
 have hb6 : Below w0.heap.size w0 w6 := Below.grown (h.m.bel.trans (hb.mono h.m.bel.size)) hg (Nat.le_trans h.m.bel.size hb.size) (fun q hq => (h.grow.lt q hq).1)
 have o2 : ∀ j, j ≠ 2 → (w6.setCell ⟨bc, 2, none⟩ (.slice (some ⟨g, 0, none⟩) (ts.length + 1) c)).cell? ⟨bc, j, none⟩ = W.cell? ⟨bc, j, none⟩ := fun j hj => (World.cell?_setCell_other _ _ _ _ (by intro hh; exact hj (congrArg Addr.off hh).symm)).trans (Kd.cell_kept hbc j)
 have hrg : ∀ q, rv.ownBlock = some q → gv.ownBlock ≠ some q := fun q hq e => (h.gap q e).2 hq
 have hfg : ∀ q, fv.ownBlock = some q → gv.ownBlock ≠ some q := fun q hq => (h.fap q hq).2.2
 refine ⟨?_, old⟩
 refine ⟨⟨hb6.setCell (p := ⟨bc, 2, none⟩) h.m.ge _, h.m.ge, (o2 0 (by omega)).trans h.m.c0, (o2 3 (by omega)).trans h.m.c3, fun i => by rw [World.frozen?_setCell]; exact (Kd.frz_kept hbc i).trans (h.m.fz i), Kd.ow_kept h.m.row (fun q hq => old q (h.m.row.lt q hq).2 (h.m.ap q hq) (hrg q hq)), h.m.ap⟩, (o2 1 (by omega)).trans h.c1, World.cell?_setCell_same _ _ _ ((Kd.cell_kept hbc 2).trans h.c2), Kd.ow_kept h.frow (fun q hq => old q (h.frow.lt q hq).2 (h.fap q hq).1 (hfg q hq)), ?_, by rw [List.length_append, List.length_append, h.tl]; rfl, fun i t' s' ht hs => ?_, fun q hq => ⟨(h.fap q hq).1, (h.fap q hq).2.1, nog q (by have := (h.frow.lt q hq).2; omega) (hfg q hq)⟩, fun q hq => ⟨by cases hq; exact hgb, fun e => nog q (by have := (h.m.row.lt q e).2; omega) (hrg q e) hq⟩⟩
 · rw [List.length_append, List.map_append]
   exact Kd.ow_kept ho (fun q hq => by cases hq; exact Kd.set_other hgb)
 · by_cases hi : i < ts.length
   · rw [List.getElem?_append_left hi] at ht
     rw [List.getElem?_append_left (by rw [← h.tl]; exact hi)] at hs
     have hz := h.at_ i t' s' ht hs
     exact ⟨hz.len, Kd.ow_kept hz.row (fun q hq => old q (hz.row.lt q hq).2 (hz.ap q hq).1 (hz.ap q hq).2.2.2), fun q hq => ⟨(hz.ap q hq).1, (hz.ap q hq).2.1, (hz.ap q hq).2.2.1, nog q (by have := (hz.row.lt q hq).2; omega) (hz.ap q hq).2.2.2⟩⟩
   · have htl2 := h.tl
     rw [List.getElem?_append_right (by omega)] at ht hs
     have hi0 : i - ts.length = 0 := by
      have := (List.getElem?_eq_some_iff.1 ht).1
      simp at this
      omega
     rw [hi0] at ht
     rw [← htl2, hi0] at hs
     have e1 : t = t' := by simpa using ht
     have e2 : s = s' := by simpa using hs
     subst e1 e2
     have lq : ∀ q, (Kd.sv t).ownBlock = some q → W.heap.size ≤ q ∧ q < W1.heap.size := fun q hq => hr.lt q hq
     have ng : ∀ q, (Kd.sv t).ownBlock = some q → gv.ownBlock ≠ some q := fun q hq e => by have h1 := (h.grow.lt q e).2; have h2 := (lq q hq).1; omega
     refine ⟨htl, Kd.ow_kept (World.ownsRow.mono hr h.m.bel.size) (fun q hq => old1 q (lq q hq).2 (fun e => by have := (lq q hq).1; omega) (ng q hq)), fun q hq => ⟨fun e => by have := (lq q hq).1; omega, fun e => by have h1 := (h.m.row.lt q e).2; have h2 := (lq q hq).1; omega, fun e => by have h1 := (h.frow.lt q e).2; have h2 := (lq q hq).1; omega, nog q (lq q hq).2 (ng q hq)⟩⟩
end
end Go.Proofs.Ytpfogjplnodacaa
