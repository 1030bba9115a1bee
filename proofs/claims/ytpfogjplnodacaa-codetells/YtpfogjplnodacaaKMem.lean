/-
  The compiler as it lies in memory: put, goHere. By the verifier.
-/
import Derived.Test.YtpfogjplnodacaaKPure
import Derived.Test.YtpfogjplnodacaaPAll
import Derived.Deep.AppendLies
import Derived.Deep.RegionHeld3
namespace Go.Proofs.Ytpfogjplnodacaa
open Go.RowKit
set_option linter.unusedVariables false
theorem Kd.ow_kept {W W' : World} {B : Nat} {e : TypeId} {size : Nat} {v : Value} {n : Nat} {xs : List Value} (h : W.ownsRow B e size v n xs) (hb : ∀ q, v.ownBlock = some q → W'.heap[q]? = W.heap[q]?) : W'.ownsRow B e size v n xs := by
 obtain ⟨h1, h2⟩ := h
 refine ⟨h1, ?_⟩
 rcases h2 with h2 | ⟨g, cap, cur, hv, hg, hh, r⟩
 · exact .inl h2
 · exact .inr ⟨g, cap, cur, hv, hg, (hb g (by rw [hv]; rfl)).trans hh, r⟩
theorem Kd.cell_kept {W W' : World} {q : Nat} (h : W'.heap[q]? = W.heap[q]?) (i : Nat) : W'.cell? ⟨q, i, none⟩ = W.cell? ⟨q, i, none⟩ := World.cell?_of_block (a := ⟨q, i, none⟩) h
theorem Kd.frz_kept {W W' : World} {q : Nat} (h : W'.heap[q]? = W.heap[q]?) (i : Nat) : W'.frozen? ⟨q, i, none⟩ = W.frozen? ⟨q, i, none⟩ := World.frozen?_of_block (a := ⟨q, i, none⟩) h
theorem Kd.set_other {W : World} {b q o : Nat} {v : Value} (h : q ≠ b) : (W.setCell ⟨b, o, none⟩ v).heap[q]? = W.heap[q]? := Below.heap_setCell _ _ _ _ h
theorem Try.infoIn : (Try.prog.info? 55).map (fun i => (i.zero, i.size, i.bytes)) = some (some (.agg #[.int .i64 0, .int .i64 0, .int .i64 0]), 3, 24) := by kernel_rfl
def Kd.I.cl (x : Kd.I) : List Value := [.int .i64 x.k, .int .i64 x.a, .int .i64 x.b]
def Kd.cl (l : List Kd.I) : List Value := l.flatMap Kd.I.cl
theorem Kd.cl_snoc (l : List Kd.I) (x : Kd.I) : Kd.cl (l ++ [x]) = Kd.cl l ++ x.cl := by unfold Kd.cl; simp
theorem Kd.cl_len : ∀ l : List Kd.I, (Kd.cl l).length = l.length * 3
 | [] => rfl
 | e :: r => by
  show (e.cl ++ Kd.cl r).length = _
  rw [List.length_append, Kd.cl_len r, List.length_cons]
  show 3 + r.length * 3 = _
  omega
theorem Kd.cl_at : ∀ (l : List Kd.I) (i : Nat) (x : Kd.I) (j : Nat) (v : Value), l[i]? = some x → x.cl[j]? = some v → (Kd.cl l)[i * 3 + j]? = some v
 | [], i, x, j, v, h, _ => by simp at h
 | e :: r, 0, x, j, v, h, hv => by
  simp at h
  subst h
  show (e.cl ++ Kd.cl r)[0 * 3 + j]? = _
  have hj := (List.getElem?_eq_some_iff.1 hv).1
  rw [Nat.zero_mul, Nat.zero_add, List.getElem?_append_left hj]
  exact hv
 | e :: r, i + 1, x, j, v, h, hv => by
  show (e.cl ++ Kd.cl r)[(i + 1) * 3 + j]? = _
  have e3 : e.cl.length = 3 := rfl
  rw [List.getElem?_append_right (by rw [e3]; omega), e3, show (i + 1) * 3 + j - 3 = i * 3 + j by omega]
  exact Kd.cl_at r i x j v (by simpa using h) hv
def Kd.to (l : List Kd.I) (i : Nat) (t : Int) : List Kd.I := l.modify i (fun x => ⟨x.k, t, x.b⟩)
theorem Kd.cl_to : ∀ (l : List Kd.I) (i : Nat) (t : Int), i < l.length → Kd.cl (Kd.to l i t) = (Kd.cl l).set (i * 3 + 1) (.int .i64 t)
 | [], i, t, h => by simp at h
 | e :: r, 0, t, _ => rfl
 | e :: r, i + 1, t, h => by
  show e.cl ++ Kd.cl (Kd.to r i t) = (e.cl ++ Kd.cl r).set ((i + 1) * 3 + 1) _
  rw [Kd.cl_to r i t (by simpa using h), List.set_append_right _ _ (by show 3 ≤ _; omega)]
  congr 2
  show i * 3 + 1 = (i + 1) * 3 + 1 - 3
  omega
theorem Kd.to_len (l : List Kd.I) (i : Nat) (t : Int) : (Kd.to l i t).length = l.length := by unfold Kd.to; rw [List.length_modify]
structure Kd.M (w0 W : World) (bc : Nat) (rv : Value) (l : List Kd.I) (a : Nat) : Prop where
 bel : Below w0.heap.size w0 W
 ge : w0.heap.size ≤ bc
 c0 : W.cell? ⟨bc, 0, none⟩ = some rv
 c3 : W.cell? ⟨bc, 3, none⟩ = some (.int .i64 (a : Nat))
 fz : ∀ i, W.frozen? ⟨bc, i, none⟩ = false
 row : W.ownsRow w0.heap.size 55 3 rv l.length (Kd.cl l)
 ap : ∀ q, rv.ownBlock = some q → q ≠ bc
structure Kd.Kp (bc : Nat) (rv rv' : Value) (W W' : World) : Prop where
 sz : W.heap.size ≤ W'.heap.size
 blk : ∀ q, q < W.heap.size → q ≠ bc → rv.ownBlock ≠ some q → W'.heap[q]? = W.heap[q]?
 own : ∀ q, rv'.ownBlock = some q → rv.ownBlock = some q ∨ W.heap.size ≤ q
 c1 : W'.cell? ⟨bc, 1, none⟩ = W.cell? ⟨bc, 1, none⟩
 c2 : W'.cell? ⟨bc, 2, none⟩ = W.cell? ⟨bc, 2, none⟩
section
variable {w0 W W' W'' : World} {bc : Nat} {rv rv' rv'' : Value} {l : List Kd.I} {a : Nat}
theorem Kd.M.lt (h : Kd.M w0 W bc rv l a) : bc < W.heap.size := World.block_lt_of_cell? W _ h.c0
theorem Kd.M.form (h : Kd.M w0 W bc rv l a) : ∃ g c, rv = .slice g l.length c ∧ l.length ≤ c := by
 rcases h.row.2 with ⟨h1, h2⟩ | ⟨g, cap, cur, hv, _, _, hc, _⟩
 · exact ⟨none, 0, by rw [h2]; exact h1, by omega⟩
 · exact ⟨_, _, hv, hc⟩
theorem Kd.M.kept (h : Kd.M w0 W bc rv l a) (hb : Below w0.heap.size w0 W') (h1 : W'.heap[bc]? = W.heap[bc]?) (h2 : ∀ q, rv.ownBlock = some q → W'.heap[q]? = W.heap[q]?) : Kd.M w0 W' bc rv l a :=
 ⟨hb, h.ge, (Kd.cell_kept h1 0).trans h.c0, (Kd.cell_kept h1 3).trans h.c3, fun i => (Kd.frz_kept h1 i).trans (h.fz i), Kd.ow_kept h.row h2, h.ap⟩
theorem Kd.M.below (h : Kd.M w0 W bc rv l a) (hb : Below W.heap.size W W') : Kd.M w0 W' bc rv l a :=
 h.kept (h.bel.trans (hb.mono h.bel.size)) (hb.block bc h.lt) (fun q hq => hb.block q (h.row.lt q hq).2)
theorem Kd.Kp.below (hb : Below W.heap.size W W') (hl : bc < W.heap.size) : Kd.Kp bc rv rv W W' :=
 ⟨hb.size, fun q hq _ _ => hb.block q hq, fun q hq => .inl hq, Kd.cell_kept (hb.block bc hl) 1, Kd.cell_kept (hb.block bc hl) 2⟩
theorem Kd.Kp.trans (h : Kd.Kp bc rv rv' W W') (h2 : Kd.Kp bc rv' rv'' W' W'') : Kd.Kp bc rv rv'' W W'' :=
 ⟨Nat.le_trans h.sz h2.sz, fun q hq hb hr => (h2.blk q (Nat.lt_of_lt_of_le hq h.sz) hb (fun e => (h.own q e).elim hr (fun h3 => by omega))).trans (h.blk q hq hb hr),
  fun q hq => (h2.own q hq).elim (h.own q) (fun h3 => .inr (Nat.le_trans h.sz h3)), h2.c1.trans h.c1, h2.c2.trans h.c2⟩
theorem Kd.Kp.box {W0 : World} (h : Kd.Kp bc rv rv' W W') (hm : Kd.M w0 W0 bc rv l a) {q : Nat} (hq : W0.heap.size ≤ q) (hl : q < W.heap.size) : W'.heap[q]? = W.heap[q]? :=
 h.blk q hl (fun e => by have := hm.lt; omega) (fun e => by have := (hm.row.lt q e).2; omega)
def Kd.Post (w0 : World) (bc : Nat) (rv : Value) (W : World) (l : List Kd.I) (a : Nat) : Ending → World → Prop := fun r W' => r = .returned (.tuple #[]) ∧ ∃ rv', Kd.M w0 W' bc rv' l a ∧ Kd.Kp bc rv rv' W W'
theorem Kd.M.app {x : Kd.I} {W2 w6 : World} (h : Kd.M w0 W bc rv l a) (hb : Below W.heap.size W W2) (hg : W2.grownBy w6 rv.ownBlock) (g c : Nat) (ho : w6.ownsRow w0.heap.size 55 3 (.slice (some ⟨g, 0, none⟩) (l.length + 1) c) (l.length + 1) (Kd.cl l ++ x.cl)) (hat : rv.ownBlock = some g ∨ W.heap.size ≤ g) :
  Kd.M w0 (w6.setCell ⟨bc, 0, none⟩ (.slice (some ⟨g, 0, none⟩) (l.length + 1) c)) bc (.slice (some ⟨g, 0, none⟩) (l.length + 1) c) (l ++ [x]) a ∧ Kd.Kp bc rv (.slice (some ⟨g, 0, none⟩) (l.length + 1) c) W (w6.setCell ⟨bc, 0, none⟩ (.slice (some ⟨g, 0, none⟩) (l.length + 1) c)) := by
 have hlt := h.lt
 have hgb : g ≠ bc := fun e => by
  rcases hat with h1 | h1
  · exact h.ap g h1 e
  · omega
 have hbc : w6.heap[bc]? = W.heap[bc]? := (hg.block bc (Nat.lt_of_lt_of_le hlt hb.size) (fun e => h.ap bc e.symm rfl)).trans (hb.block bc hlt)
 have hb6 : Below w0.heap.size w0 w6 := Below.grown (h.bel.trans (hb.mono h.bel.size)) hg (Nat.le_trans h.bel.size hb.size) (fun q hq => (h.row.lt q hq).1)
 have c6 : ∀ i, w6.cell? ⟨bc, i, none⟩ = W.cell? ⟨bc, i, none⟩ := Kd.cell_kept hbc
 have f6 : ∀ i, w6.frozen? ⟨bc, i, none⟩ = W.frozen? ⟨bc, i, none⟩ := Kd.frz_kept hbc
 have hset : ∀ j, j ≠ 0 → (w6.setCell ⟨bc, 0, none⟩ (.slice (some ⟨g, 0, none⟩) (l.length + 1) c)).cell? ⟨bc, j, none⟩ = w6.cell? ⟨bc, j, none⟩ := fun j hj => World.cell?_setCell_other _ _ _ _ (by intro hh; exact hj (congrArg Addr.off hh).symm)
 refine ⟨⟨hb6.setCell (p := ⟨bc, 0, none⟩) h.ge _, h.ge, ?_, ?_, fun i => ?_, ?_, fun q hq => by cases hq; exact hgb⟩, ?_, fun q hq h1 h2 => ?_, fun q hq => by cases hq; exact hat, (hset 1 (by omega)).trans (c6 1), (hset 2 (by omega)).trans (c6 2)⟩
 · exact World.cell?_setCell_same _ _ _ ((c6 0).trans h.c0)
 · exact (hset 3 (by omega)).trans ((c6 3).trans h.c3)
 · rw [World.frozen?_setCell]
   exact (f6 i).trans (h.fz i)
 · rw [List.length_append, Kd.cl_snoc]
   exact Kd.ow_kept ho (fun q hq => by cases hq; exact Kd.set_other hgb)
 · have h3 := hg.size
   have h4 := hb.size
   have h5 : (w6.setCell ⟨bc, 0, none⟩ (.slice (some ⟨g, 0, none⟩) (l.length + 1) c)).heap.size = w6.heap.size := World.size_setCell _ _ _
   omega
 · exact (Kd.set_other h1).trans ((hg.block q (Nat.lt_of_lt_of_le hq hb.size) (fun e => h2 e.symm)).trans (hb.block q hq))
end
end Go.Proofs.Ytpfogjplnodacaa
