/-
  KMem, KClone, KPut, KGo, KFun. By the verifier.
-/
import Derived.Test.YtpfogjplnodacaaGreatLC
import Derived.Test.YtpfogjplnodacaaGreatLD
import Derived.Deep.AppendLies
import Derived.Deep.RegionHeld3
import Derived.Laws.AppendOwn
import Derived.OwnWalk
import Derived.Lib.SliceRun
import Derived.Laws.OwnMore
import Derived.Deep.Onto
set_option maxRecDepth 100000
set_option maxHeartbeats 1600000
namespace Go.Proofs.YtpfogjplnodacaaGreat
open Go.RowKit
set_option linter.unusedVariables false
theorem Kd.ow_kept {W W' : World} {B : Nat} {e : TypeId} {size : Nat} {v : Value} {n : Nat} {xs : List Value} (h : W.ownsRow B e size v n xs) (hb : ∀ q, v.ownBlock = some q → W'.heap[q]? = W.heap[q]?) : W'.ownsRow B e size v n xs := by
 obtain ⟨h1, h2⟩ := h
 refine ⟨h1, ?_⟩
 rcases h2 with h2 | ⟨g, cap, cur, hv, hg, hh, r⟩
 · exact .inl h2
 · exact .inr ⟨g, cap, cur, hv, hg, (hb g (by rw [hv]; rfl)).trans hh, r⟩
theorem Kd.cell_kept {W W' : World} {q : Nat} (h : W'.heap[q]? = W.heap[q]?) (i : Nat) : W'.cell? ⟨q, i, none⟩ = W.cell? ⟨q, i, none⟩ := World.cell?_of_block (a := ⟨q, i, none⟩) h
theorem Kd.frz_kept {W W' : World} {q : Nat} (h : W'.heap[q]? = W.heap[q]?) (i : Nat) : W'.frozen? ⟨q, i, none⟩ = W.frozen? ⟨q, i, none⟩ := World.frozen?_of_block (a := ⟨q, i, none⟩) h
theorem Kd.set_other {W : World} {b q o : Nat} {v : Value} (h : q ≠ b) : (W.setCell ⟨b, o, none⟩ v).heap[q]? = W.heap[q]? := Below.heap_setCell _ _ _ _ h
theorem Tryz.infoIn : (Tryz.prog.info? 54).map (fun i => (i.zero, i.size, i.bytes)) = some (some (.agg #[.int .i64 0, .int .i64 0, .int .i64 0]), 3, 24) := by kernel_rfl
def Kd.I.cl (x : Kd.I) : List Value := [.int .i64 x.k, .int .i64 x.a, .int .i64 x.b]
def Kd.cl (l : List Kd.I) : List Value := l.flatMap Kd.I.cl
theorem Kd.cl_snoc (l : List Kd.I) (x : Kd.I) : Kd.cl (l ++ [x]) = Kd.cl l ++ x.cl := by unfold Kd.cl; simp
theorem Kd.cl_len : ∀ l : List Kd.I, (Kd.cl l).length = l.length * 3
 | [] => rfl
 | e :: r => by
  show (e.cl ++ Kd.cl r).length = _
  rw [List.length_append, Kd.cl_len r, List.length_cons]
  show 3 + r.length * 3 = _
  omega
theorem Kd.cl_at : ∀ (l : List Kd.I) (i : Nat) (x : Kd.I) (j : Nat) (v : Value), l[i]? = some x → x.cl[j]? = some v → (Kd.cl l)[i * 3 + j]? = some v
 | [], i, x, j, v, h, _ => by simp at h
 | e :: r, 0, x, j, v, h, hv => by
  simp at h
  subst h
  show (e.cl ++ Kd.cl r)[0 * 3 + j]? = _
  have hj := (List.getElem?_eq_some_iff.1 hv).1
  rw [Nat.zero_mul, Nat.zero_add, List.getElem?_append_left hj]
  exact hv
 | e :: r, i + 1, x, j, v, h, hv => by
  show (e.cl ++ Kd.cl r)[(i + 1) * 3 + j]? = _
  have e3 : e.cl.length = 3 := rfl
  rw [List.getElem?_append_right (by rw [e3]; omega), e3, show (i + 1) * 3 + j - 3 = i * 3 + j by omega]
  exact Kd.cl_at r i x j v (by simpa using h) hv
def Kd.to (l : List Kd.I) (i : Nat) (t : Int) : List Kd.I := l.modify i (fun x => ⟨x.k, t, x.b⟩)
theorem Kd.cl_to : ∀ (l : List Kd.I) (i : Nat) (t : Int), i < l.length → Kd.cl (Kd.to l i t) = (Kd.cl l).set (i * 3 + 1) (.int .i64 t)
 | [], i, t, h => by simp at h
 | e :: r, 0, t, _ => rfl
 | e :: r, i + 1, t, h => by
  show e.cl ++ Kd.cl (Kd.to r i t) = (e.cl ++ Kd.cl r).set ((i + 1) * 3 + 1) _
  rw [Kd.cl_to r i t (by simpa using h), List.set_append_right _ _ (by show 3 ≤ _; omega)]
  congr 2
  show i * 3 + 1 = (i + 1) * 3 + 1 - 3
  omega
theorem Kd.to_len (l : List Kd.I) (i : Nat) (t : Int) : (Kd.to l i t).length = l.length := by unfold Kd.to; rw [List.length_modify]
structure Kd.M (w0 W : World) (bc : Nat) (rv : Value) (l : List Kd.I) (a : Nat) : Prop where
 bel : Below w0.heap.size w0 W
 ge : w0.heap.size ≤ bc
 c0 : W.cell? ⟨bc, 0, none⟩ = some rv
 c3 : W.cell? ⟨bc, 3, none⟩ = some (.int .i64 (a : Nat))
 fz : ∀ i, W.frozen? ⟨bc, i, none⟩ = false
 row : W.ownsRow w0.heap.size 54 3 rv l.length (Kd.cl l)
 ap : ∀ q, rv.ownBlock = some q → q ≠ bc
structure Kd.Kp (bc : Nat) (rv rv' : Value) (W W' : World) : Prop where
 sz : W.heap.size ≤ W'.heap.size
 blk : ∀ q, q < W.heap.size → q ≠ bc → rv.ownBlock ≠ some q → W'.heap[q]? = W.heap[q]?
 own : ∀ q, rv'.ownBlock = some q → rv.ownBlock = some q ∨ W.heap.size ≤ q
 c1 : W'.cell? ⟨bc, 1, none⟩ = W.cell? ⟨bc, 1, none⟩
 c2 : W'.cell? ⟨bc, 2, none⟩ = W.cell? ⟨bc, 2, none⟩
section
variable {w0 W W' W'' : World} {bc : Nat} {rv rv' rv'' : Value} {l : List Kd.I} {a : Nat}
theorem Kd.M.lt (h : Kd.M w0 W bc rv l a) : bc < W.heap.size := World.block_lt_of_cell? W _ h.c0
theorem Kd.M.form (h : Kd.M w0 W bc rv l a) : ∃ g c, rv = .slice g l.length c ∧ l.length ≤ c := by
 rcases h.row.2 with ⟨h1, h2⟩ | ⟨g, cap, cur, hv, _, _, hc, _⟩
 · exact ⟨none, 0, by rw [h2]; exact h1, by omega⟩
 · exact ⟨_, _, hv, hc⟩
theorem Kd.M.kept (h : Kd.M w0 W bc rv l a) (hb : Below w0.heap.size w0 W') (h1 : W'.heap[bc]? = W.heap[bc]?) (h2 : ∀ q, rv.ownBlock = some q → W'.heap[q]? = W.heap[q]?) : Kd.M w0 W' bc rv l a :=
 ⟨hb, h.ge, (Kd.cell_kept h1 0).trans h.c0, (Kd.cell_kept h1 3).trans h.c3, fun i => (Kd.frz_kept h1 i).trans (h.fz i), Kd.ow_kept h.row h2, h.ap⟩
theorem Kd.M.below (h : Kd.M w0 W bc rv l a) (hb : Below W.heap.size W W') : Kd.M w0 W' bc rv l a :=
 h.kept (h.bel.trans (hb.mono h.bel.size)) (hb.block bc h.lt) (fun q hq => hb.block q (h.row.lt q hq).2)
theorem Kd.Kp.below (hb : Below W.heap.size W W') (hl : bc < W.heap.size) : Kd.Kp bc rv rv W W' :=
 ⟨hb.size, fun q hq _ _ => hb.block q hq, fun q hq => .inl hq, Kd.cell_kept (hb.block bc hl) 1, Kd.cell_kept (hb.block bc hl) 2⟩
theorem Kd.Kp.trans (h : Kd.Kp bc rv rv' W W') (h2 : Kd.Kp bc rv' rv'' W' W'') : Kd.Kp bc rv rv'' W W'' :=
 ⟨Nat.le_trans h.sz h2.sz, fun q hq hb hr => (h2.blk q (Nat.lt_of_lt_of_le hq h.sz) hb (fun e => (h.own q e).elim hr (fun h3 => by omega))).trans (h.blk q hq hb hr),
  fun q hq => (h2.own q hq).elim (h.own q) (fun h3 => .inr (Nat.le_trans h.sz h3)), h2.c1.trans h.c1, h2.c2.trans h.c2⟩
theorem Kd.Kp.box {W0 : World} (h : Kd.Kp bc rv rv' W W') (hm : Kd.M w0 W0 bc rv l a) {q : Nat} (hq : W0.heap.size ≤ q) (hl : q < W.heap.size) : W'.heap[q]? = W.heap[q]? :=
 h.blk q hl (fun e => by have := hm.lt; omega) (fun e => by have := (hm.row.lt q e).2; omega)
def Kd.Post (w0 : World) (bc : Nat) (rv : Value) (W : World) (l : List Kd.I) (a : Nat) : Ending → World → Prop := fun r W' => r = .returned (.tuple #[]) ∧ ∃ rv', Kd.M w0 W' bc rv' l a ∧ Kd.Kp bc rv rv' W W'
theorem Kd.M.app {x : Kd.I} {W2 w6 : World} (h : Kd.M w0 W bc rv l a) (hb : Below W.heap.size W W2) (hg : W2.grownBy w6 rv.ownBlock) (g c : Nat) (ho : w6.ownsRow w0.heap.size 54 3 (.slice (some ⟨g, 0, none⟩) (l.length + 1) c) (l.length + 1) (Kd.cl l ++ x.cl)) (hat : rv.ownBlock = some g ∨ W.heap.size ≤ g) :
  Kd.M w0 (w6.setCell ⟨bc, 0, none⟩ (.slice (some ⟨g, 0, none⟩) (l.length + 1) c)) bc (.slice (some ⟨g, 0, none⟩) (l.length + 1) c) (l ++ [x]) a ∧ Kd.Kp bc rv (.slice (some ⟨g, 0, none⟩) (l.length + 1) c) W (w6.setCell ⟨bc, 0, none⟩ (.slice (some ⟨g, 0, none⟩) (l.length + 1) c)) := by
 have hlt := h.lt
 have hgb : g ≠ bc := fun e => by
  rcases hat with h1 | h1
  · exact h.ap g h1 e
  · omega
 have hbc : w6.heap[bc]? = W.heap[bc]? := (hg.block bc (Nat.lt_of_lt_of_le hlt hb.size) (fun e => h.ap bc e.symm rfl)).trans (hb.block bc hlt)
 have hb6 : Below w0.heap.size w0 w6 := Below.grown (h.bel.trans (hb.mono h.bel.size)) hg (Nat.le_trans h.bel.size hb.size) (fun q hq => (h.row.lt q hq).1)
 have c6 : ∀ i, w6.cell? ⟨bc, i, none⟩ = W.cell? ⟨bc, i, none⟩ := Kd.cell_kept hbc
 have f6 : ∀ i, w6.frozen? ⟨bc, i, none⟩ = W.frozen? ⟨bc, i, none⟩ := Kd.frz_kept hbc
 have hset : ∀ j, j ≠ 0 → (w6.setCell ⟨bc, 0, none⟩ (.slice (some ⟨g, 0, none⟩) (l.length + 1) c)).cell? ⟨bc, j, none⟩ = w6.cell? ⟨bc, j, none⟩ := fun j hj => World.cell?_setCell_other _ _ _ _ (by intro hh; exact hj (congrArg Addr.off hh).symm)
 refine ⟨⟨hb6.setCell (p := ⟨bc, 0, none⟩) h.ge _, h.ge, ?_, ?_, fun i => ?_, ?_, fun q hq => by cases hq; exact hgb⟩, ?_, fun q hq h1 h2 => ?_, fun q hq => by cases hq; exact hat, (hset 1 (by omega)).trans (c6 1), (hset 2 (by omega)).trans (c6 2)⟩
 · exact World.cell?_setCell_same _ _ _ ((c6 0).trans h.c0)
 · exact (hset 3 (by omega)).trans ((c6 3).trans h.c3)
 · rw [World.frozen?_setCell]
   exact (f6 i).trans (h.fz i)
 · rw [List.length_append, Kd.cl_snoc]
   exact Kd.ow_kept ho (fun q hq => by cases hq; exact Kd.set_other hgb)
 · have h3 := hg.size
   have h4 := hb.size
   have h5 : (w6.setCell ⟨bc, 0, none⟩ (.slice (some ⟨g, 0, none⟩) (l.length + 1) c)).heap.size = w6.heap.size := World.size_setCell _ _ _
   omega
 · exact (Kd.set_other h1).trans ((hg.block q (Nat.lt_of_lt_of_le hq hb.size) (fun e => h2 e.symm)).trans (hb.block q hq))
end
end Go.Proofs.YtpfogjplnodacaaGreat
namespace Go.Proofs.YtpfogjplnodacaaGreat
open Go.RowKit
set_option linter.unusedVariables false
theorem Tryz.infoK3 : (Tryz.prog.info? 3).map (fun i => (i.zero, i.size, i.bytes)) = some (some (.int .i64 0), 1, 8) := by kernel_rfl
theorem Kd.add_at (g o j : Nat) : (⟨g, o, none⟩ : Addr).add j = ⟨g, o + j, none⟩ := by unfold Addr.add; split <;> simp_all
theorem Kd.cell_alloc {w : World} {a : Addr} {v : Value} {o : Obj} (h : w.cell? a = some v) : (w.alloc o).cell? a = some v := by
 rw [← h]
 exact ((Below.refl w.heap.size w).alloc (Nat.le_refl _) o).cell (World.block_lt_of_cell? w _ h)
theorem Kd.one_i (l : List Int) : ∀ u ∈ l.map (Value.int .i64), u.oneCell' = true := by
 intro u hu; obtain ⟨x, _, rfl⟩ := List.mem_map.1 hu; rfl
theorem Kd.rn_own {W : World} {B n c : Nat} {a : Option Addr} {l : List Int} (hl : l.length = n) (hn : n ≤ 35184372088832) (h : W.ownsRow B 3 1 (.slice a n c) n (l.map (Value.int .i64))) : Pg.RN W ⟨a, n, c⟩ l := by
 refine ⟨hl.symm, ?_, by omega, fun i z hz => ?_⟩
 · rcases h.2 with ⟨h1, h2⟩ | ⟨g, cap, cur, hv, _, _, hc, _⟩
   · show n ≤ c
     omega
   · cases hv
     exact hc
 · obtain ⟨g, cap, hv, _, hlt⟩ := h.form (by have := (List.getElem?_eq_some_iff.1 hz).1; omega)
   cases hv
   have hc := h.cells (g := g) rfl i (.int .i64 z) (by rw [List.getElem?_map, hz]; rfl)
   rw [Kd.add_at] at hc
   exact ⟨g, 0, rfl, hlt, hc⟩
theorem Kd.rn_news {w : World} {a : Addr} {n c : Nat} {l : List Int} (h : Pg.RN w ⟨some a, n, c⟩ l) : ∀ j u, (l.map (Value.int .i64))[j]? = some u → w.cell? (a.add j) = some u := by
 intro j u hu
 rw [List.getElem?_map] at hu
 cases hx : l[j]? with
 | none => rw [hx] at hu; cases hu
 | some s =>
  rw [hx] at hu
  simp at hu
  subst hu
  obtain ⟨b, o, h1, _, h3⟩ := h.at_ j s hx
  cases h1
  rw [Kd.add_at]; exact h3
theorem kclone_at (l : List Int) (a : Addr) (cap : Nat) (w : World) (hc : ∀ j u, (l.map (Value.int .i64))[j]? = some u → w.cell? (a.add j) = some u) (hl : l.length ≤ 600) :
  Calls Tryz.prog 62 #[.slice (some a) l.length cap] w fun e w' => ∃ v, e = .returned v ∧ w'.ownsRow w.heap.size 3 1 v l.length (l.map (Value.int .i64)) ∧ Below w.heap.size w w' := by
 obtain ⟨i0, hi, hz0, hz1, hz2⟩ := info_of Tryz.infoK3
 have HNW := hide (fun j u hj => Kd.cell_alloc (o := .cells #[] 3) (hc j u hj))
 have HOW := hide (World.ownsRow_made (base := w.heap.size) (e := 3) (size := 1) w #[] 0 (Nat.le_refl _) (Nat.zero_le _) (by simp))
 have HI := hide hi
 have HZ0 := hide hz0
 have HZ1 := hide hz1
 have HZ2 := hide hz2
 clear hc hi hz0 hz1 hz2
 have q22 : ∀ (w : World) (a : Option Addr) (n c n' c' : Nat), (binOp .eql 23 (.slice a n c) (.slice none n' c')).run Tryz.prog w = .ok (.bool a.isNone) w := fun w a n c n' c' => Lib.run_eql_slice_nil w _ _ a n c n' c' Tryz.underlying23
 go_enter Tryz.func62, Tryz.ntmps62
 go_wp2_with (at_builtin; refine wpList_append_own _ (by rfl) _ _ _ (by rfl) w.heap.size 3 i0 _ 1 8 Tryz.underlying23 (unhide HI) (unhide HZ0) (unhide HZ1) (unhide HZ2) rfl (by omega) (.slice (some ⟨w.heap.size, 0, none⟩) 0 0) 0 [] (by rfl) (unhide HOW) a l.length cap (l.map (Value.int .i64)) (by rfl) (by simp) (unhide HNW) (Kd.one_i l) (by unfold maxLen; omega) (by omega) (by simp) ?_; intro v' w1 hown hgrow hnil; have HO := hide hown; have HG := hide hgrow; clear hown hgrow hnil)
 go_ret
 refine ⟨v', rfl, by have := unhide HO; rw [Nat.zero_add, List.nil_append] at this; exact this, ?_⟩
 exact ((Below.refl _ w).alloc (Nat.le_refl _) _).grown (unhide HG) (by simp) (by intro k hk; simp [Value.ownBlock] at hk; omega)
theorem kclone_nil (n cap : Nat) (w : World) :
  Calls Tryz.prog 62 #[.slice none n cap] w fun e w' => e = .returned (.slice none 0 0) ∧ w' = w := by
 have q22 : ∀ (w : World) (a : Option Addr) (n c n' c' : Nat), (binOp .eql 23 (.slice a n c) (.slice none n' c')).run Tryz.prog w = .ok (.bool a.isNone) w := fun w a n c n' c' => Lib.run_eql_slice_nil w _ _ a n c n' c' Tryz.underlying23
 go_enter Tryz.func62, Tryz.ntmps62
 go_wp2
 go_ret
 exact ⟨rfl, rfl⟩
theorem kclone_any (l : List Int) (s : Pg.Sl) (w : World) (hr : Pg.RN w s l) (hl : l.length ≤ 600) :
  Calls Tryz.prog 62 #[.slice s.ad s.len s.cap] w fun e w' => ∃ a c, e = .returned (.slice a l.length c) ∧ w'.ownsRow w.heap.size 3 1 (.slice a l.length c) l.length (l.map (Value.int .i64)) ∧ Below w.heap.size w w' := by
 obtain ⟨ad, n, cap⟩ := s
 have hn : n = l.length := hr.len
 subst hn
 cases ad with
 | none =>
  have h0 : l = [] := by
   cases l with
   | nil => rfl
   | cons x r => obtain ⟨b, o, h1, _⟩ := hr.at_ 0 x rfl; cases h1
  subst h0
  refine (kclone_nil _ cap w).mono ?_
  rintro e w' ⟨rfl, rfl⟩
  exact ⟨none, 0, rfl, World.ownsRow_nil _ _ _ _, Below.refl _ _⟩
 | some a =>
  refine (kclone_at l a cap w (Kd.rn_news hr) hl).mono ?_
  rintro e w' ⟨v, rfl, ho, hb⟩
  rcases ho.2 with ⟨rfl, hn⟩ | ⟨g, cap', cur, rfl, hr⟩
  · rw [hn] at ho ⊢; exact ⟨none, 0, rfl, ho, hb⟩
  · exact ⟨some ⟨g, 0, none⟩, cap', rfl, ⟨ho.1, .inr ⟨g, cap', cur, rfl, hr⟩⟩, hb⟩
end Go.Proofs.YtpfogjplnodacaaGreat
namespace Go.Proofs.YtpfogjplnodacaaGreat
open Go.RowKit
set_option linter.unusedVariables false
theorem kput_any {w0 W : World} {bc : Nat} {rv : Value} {l : List Kd.I} {a : Nat} (h : Kd.M w0 W bc rv l a) (hl : l.length ≤ 100000) (k x y : Int) :
  Calls Tryz.prog 64 #[.pointer (some ⟨bc, 0, none⟩), .int .i64 k, .int .i64 x, .int .i64 y] W fun r W' => r = .returned (.int .i64 (l.length : Nat)) ∧ ∃ rv', Kd.M w0 W' bc rv' (l ++ [⟨k, x, y⟩]) a ∧ Kd.Kp bc rv rv' W W' := by
 obtain ⟨g0, c, rfl, hlc⟩ := h.form
 obtain ⟨i0, hi0, hz0, hz1', hz2⟩ := info_of Tryz.infoIn
 have HI := hide hi0
 have HZ0 := hide hz0
 have HZ1 := hide hz1'
 have HZ2 := hide hz2
 have k0 := h.c0
 have kf := h.fz 0
 have hlt := h.lt
 have HROW := hide h.row
 have HBK := hide (heap_alloc_new W (Obj.cells #[.int .i64 k, .int .i64 x, .int .i64 y] 54))
 have HBD := hide (show Below W.heap.size W (W.alloc (Obj.cells #[.int .i64 k, .int .i64 x, .int .i64 y] 54)) from (Below.refl _ _).alloc (Nat.le_refl _) _)
 have hw0 : w0.heap.size ≤ W.heap.size := h.bel.size
 have HAP := hide (fun (w6 : World) (hg : (W.alloc (Obj.cells #[.int .i64 k, .int .i64 x, .int .i64 y] 54)).grownBy w6 (Value.slice g0 l.length c).ownBlock) (g cc : Nat) (ho : w6.ownsRow w0.heap.size 54 3 (.slice (some ⟨g, 0, none⟩) (l.length + 1) cc) (l.length + 1) (Kd.cl l ++ [.int .i64 k, .int .i64 x, .int .i64 y])) (hat : (Value.slice g0 l.length c).ownBlock = some g ∨ W.heap.size ≤ g) => Kd.M.app (x := ⟨k, x, y⟩) h ((Below.refl _ _).alloc (Nat.le_refl _) _) hg g cc ho hat)
 have HGB := hide (fun (w6 : World) (hg : (W.alloc (Obj.cells #[.int .i64 k, .int .i64 x, .int .i64 y] 54)).grownBy w6 (Value.slice g0 l.length c).ownBlock) => show w6.heap[bc]? = W.heap[bc]? from (hg.block bc (by simp; omega) (fun e => h.ap bc e.symm rfl)).trans (((Below.refl W.heap.size W).alloc (Nat.le_refl _) _).block bc h.lt))
 generalize hn : l.length = n at *
 generalize hxs : Kd.cl l = xs at *
 clear h hi0 hz0 hz1' hz2 hxs hn
 have hw1 : IntKind.i64.wrap (((n + 1 : Nat) : Int) - 1) = (n : Int) := by rw [IntKind.wrap_i64]; omega
 go_enter Tryz.func64, Tryz.ntmps64
 go_wp2_with (at_builtin; refine wpList_append_lies _ (by rfl) _ _ _ (by rfl) w0.heap.size 54 i0 _ 3 24 Tryz.underlying22 (unhide HI) (unhide HZ0) (unhide HZ1) (unhide HZ2) rfl (by omega) (.slice g0 n c) n xs (by rfl) (Pg.ow_below (unhide HROW) (unhide HBD)) ⟨W.heap.size, 0, none⟩ 1 1 [.int .i64 k, .int .i64 x, .int .i64 y] (by rfl) (by rfl) (World.news_of_block (unhide HBK)) (by simp [Value.oneCell']) (by omega) (by unfold maxLen; omega) (by omega) (by simp; omega) (W.heap.size + 1) (by simp) ?_; intro gA cA w6 hoA hgA hatA hltA; have HOA := hide hoA; have HGA := hide hgA; have HAT := hide (show (Value.slice g0 n c).ownBlock = some gA ∨ W.heap.size ≤ gA from hatA.imp id (fun e => by rw [e]; exact Nat.le_succ _)); have hbb := (unhide HGB) w6 hgA; have z4 := (Kd.cell_kept hbb 0).trans k0; have z5 := (Kd.frz_kept hbb 0).trans kf; clear hatA hltA hoA hgA hbb)
 go_ret
 have hA := (unhide HAP) _ (unhide HGA) _ _ (unhide HOA) (unhide HAT)
 exact ⟨rfl, _, hA.1, hA.2⟩
end Go.Proofs.YtpfogjplnodacaaGreat
namespace Go.Proofs.YtpfogjplnodacaaGreat
open Go.RowKit
set_option linter.unusedVariables false
theorem Kd.M.goes {w0 W : World} {bc : Nat} {g c n : Nat} {l : List Kd.I} {a : Nat} (h : Kd.M w0 W bc (.slice (some ⟨g, 0, none⟩) n c) l a) (hn : l.length = n) {i : Nat} (hi : i < n) (t : Int) :
  Kd.M w0 (W.setCell ⟨g, i * 3 + 1, none⟩ (.int .i64 t)) bc (.slice (some ⟨g, 0, none⟩) n c) (Kd.to l i t) a ∧ Kd.Kp bc (.slice (some ⟨g, 0, none⟩) n c) (.slice (some ⟨g, 0, none⟩) n c) W (W.setCell ⟨g, i * 3 + 1, none⟩ (.int .i64 t)) := by
 subst hn
 have hgb : g ≠ bc := h.ap g rfl
 have hg := h.row.lt g rfl
 have hbc : (W.setCell ⟨g, i * 3 + 1, none⟩ (.int .i64 t)).heap[bc]? = W.heap[bc]? := Kd.set_other (Ne.symm hgb)
 refine ⟨⟨h.bel.setCell (p := ⟨g, i * 3 + 1, none⟩) hg.1 _, h.ge, (Kd.cell_kept hbc 0).trans h.c0, (Kd.cell_kept hbc 3).trans h.c3, fun i => (Kd.frz_kept hbc i).trans (h.fz i), ?_, h.ap⟩, by rw [World.size_setCell]; exact Nat.le_refl _, fun q hq h1 h2 => Kd.set_other (fun e => h2 (by rw [e]; rfl)), fun q hq => .inl hq, Kd.cell_kept hbc 1, Kd.cell_kept hbc 2⟩
 rw [Kd.to_len, Kd.cl_to l i t hi]
 exact (h.row.stored (i * 3 + 1) (.int .i64 t)).1
theorem goHere_any {w0 W : World} {bc : Nat} {rv : Value} {l : List Kd.I} {a : Nat} (h : Kd.M w0 W bc rv l a) (hl : l.length ≤ 100000) (i : Nat) (hi : i < l.length) :
  Calls Tryz.prog 128 #[.pointer (some ⟨bc, 0, none⟩), .int .i64 (i : Nat)] W (Kd.Post w0 bc rv W (Kd.to l i (l.length : Nat)) a) := by
 obtain ⟨g, c, hv, _, hglt⟩ := h.row.form (by omega)
 subst hv
 have hn4 : l.length ≤ c := Kd.M.form h |>.elim fun _ h => h.elim fun _ h => by have := h.1; cases this; exact h.2
 have k0 := h.c0
 have HPO := hide ((h.goes rfl hi (l.length : Nat)))
 have kc : W.cell? ⟨g, i * 3 + 1, none⟩ = some (.int .i64 (l[i]).a) := by
  rw [h.row.cellAt (i * 3 + 1) (by omega)]
  exact Kd.cl_at l i _ 1 _ (List.getElem?_eq_getElem hi) rfl
 have kf : W.frozen? ⟨g, i * 3 + 1, none⟩ = false := h.row.frozenAt _
 generalize (l[i]).a = z at *
 generalize hn : l.length = n at *
 have hi0 : (0 : Int) ≤ (i : Int) := by omega
 have hi1 : (i : Int) < (n : Int) := by omega
 have hgb : g ≠ bc := h.ap g rfl
 clear h hn
 go_enter Tryz.func128, Tryz.ntmps128
 go_region_held3 (fun V => V.cell? ⟨bc, 0, none⟩ = some (.slice (some ⟨g, 0, none⟩) n c)) (go_keep) (fail)
 all_goals
  go_wp2_with fail
  go_end0
  exact ⟨rfl, _, (unhide HPO).1.below (Below.refl _ _).drew, (unhide HPO).2.trans (Kd.Kp.below (Below.refl _ _).drew (unhide HPO).1.lt)⟩
end Go.Proofs.YtpfogjplnodacaaGreat
namespace Go.Proofs.YtpfogjplnodacaaGreat
open Go.RowKit
set_option linter.unusedVariables false
theorem Tryz.infoSz : (Tryz.prog.info? 23).map (fun i => (i.zero, i.size, i.bytes)) = some (some (.slice none 0 0), 1, 24) := by kernel_rfl
def Kd.sv (t : Pg.Sl) : Value := .slice t.ad t.len t.cap
structure Kd.Sz (w0 W : World) (bc : Nat) (rv fv gv : Value) (t : Pg.Sl) (s : List Int) : Prop where
 len : t.len = s.length
 row : W.ownsRow w0.heap.size 3 1 (Kd.sv t) s.length (s.map (Value.int .i64))
 ap : ∀ q, (Kd.sv t).ownBlock = some q → q ≠ bc ∧ rv.ownBlock ≠ some q ∧ fv.ownBlock ≠ some q ∧ gv.ownBlock ≠ some q
structure Kd.N (w0 W : World) (bc : Nat) (rv fv gv : Value) (l : List Kd.I) (a : Nat) (fs : List Int) (ts : List Pg.Sl) (ss : List (List Int)) : Prop where
 m : Kd.M w0 W bc rv l a
 c1 : W.cell? ⟨bc, 1, none⟩ = some fv
 c2 : W.cell? ⟨bc, 2, none⟩ = some gv
 frow : W.ownsRow w0.heap.size 3 1 fv fs.length (fs.map (Value.int .i64))
 grow : W.ownsRow w0.heap.size 23 1 gv ts.length (ts.map Kd.sv)
 tl : ts.length = ss.length
 at_ : ∀ (i : Nat) (t : Pg.Sl) (s : List Int), ts[i]? = some t → ss[i]? = some s → Kd.Sz w0 W bc rv fv gv t s
 fap : ∀ q, fv.ownBlock = some q → q ≠ bc ∧ rv.ownBlock ≠ some q ∧ gv.ownBlock ≠ some q
 gap : ∀ q, gv.ownBlock = some q → q ≠ bc ∧ rv.ownBlock ≠ some q
section
variable {w0 W W' : World} {bc : Nat} {rv rv' fv gv : Value} {l l' : List Kd.I} {a a' : Nat} {fs : List Int} {ts : List Pg.Sl} {ss : List (List Int)}
theorem Kd.N.step (h : Kd.N w0 W bc rv fv gv l a fs ts ss) (hm : Kd.M w0 W' bc rv' l' a') (hk : Kd.Kp bc rv rv' W W') : Kd.N w0 W' bc rv' fv gv l' a' fs ts ss := by
 have new : ∀ q, q < W.heap.size → rv.ownBlock ≠ some q → rv'.ownBlock ≠ some q := fun q hq h1 e => (hk.own q e).elim h1 (fun h2 => by omega)
 have kf : ∀ q, fv.ownBlock = some q → W'.heap[q]? = W.heap[q]? := fun q hq => hk.blk q (h.frow.lt q hq).2 (h.fap q hq).1 (h.fap q hq).2.1
 have kg : ∀ q, gv.ownBlock = some q → W'.heap[q]? = W.heap[q]? := fun q hq => hk.blk q (h.grow.lt q hq).2 (h.gap q hq).1 (h.gap q hq).2
 refine ⟨hm, hk.c1.trans h.c1, hk.c2.trans h.c2, Kd.ow_kept h.frow kf, Kd.ow_kept h.grow kg, h.tl, fun i t s ht hs => ?_, fun q hq => ⟨(h.fap q hq).1, new q (h.frow.lt q hq).2 (h.fap q hq).2.1, (h.fap q hq).2.2⟩, fun q hq => ⟨(h.gap q hq).1, new q (h.grow.lt q hq).2 (h.gap q hq).2⟩⟩
 have hz := h.at_ i t s ht hs
 exact ⟨hz.len, Kd.ow_kept hz.row (fun q hq => hk.blk q (hz.row.lt q hq).2 (hz.ap q hq).1 (hz.ap q hq).2.1), fun q hq => ⟨(hz.ap q hq).1, new q (hz.row.lt q hq).2 (hz.ap q hq).2.1, (hz.ap q hq).2.2⟩⟩
theorem Kd.N.below (h : Kd.N w0 W bc rv fv gv l a fs ts ss) (hb : Below W.heap.size W W') : Kd.N w0 W' bc rv fv gv l a fs ts ss := h.step (h.m.below hb) (Kd.Kp.below hb h.m.lt)
theorem Kd.N.addF {W2 w6 : World} {z : Int} (h : Kd.N w0 W bc rv fv gv l a fs ts ss) (hb : Below W.heap.size W W2) (hg : W2.grownBy w6 fv.ownBlock) (g c : Nat) (ho : w6.ownsRow w0.heap.size 3 1 (.slice (some ⟨g, 0, none⟩) (fs.length + 1) c) (fs.length + 1) (fs.map (Value.int .i64) ++ [.int .i64 z])) (hat : fv.ownBlock = some g ∨ W.heap.size ≤ g) :
  Kd.N w0 (w6.setCell ⟨bc, 1, none⟩ (.slice (some ⟨g, 0, none⟩) (fs.length + 1) c)) bc rv (.slice (some ⟨g, 0, none⟩) (fs.length + 1) c) gv l a (fs ++ [z]) ts ss ∧ ∀ q, q < W.heap.size → q ≠ bc → fv.ownBlock ≠ some q → (w6.setCell ⟨bc, 1, none⟩ (.slice (some ⟨g, 0, none⟩) (fs.length + 1) c)).heap[q]? = W.heap[q]? := by
 have hlt := h.m.lt
 have old : ∀ q, q < W.heap.size → q ≠ bc → fv.ownBlock ≠ some q → (w6.setCell ⟨bc, 1, none⟩ (.slice (some ⟨g, 0, none⟩) (fs.length + 1) c)).heap[q]? = W.heap[q]? := fun q hq h1 h2 => (Kd.set_other h1).trans ((hg.block q (Nat.lt_of_lt_of_le hq hb.size) (fun e => h2 e.symm)).trans (hb.block q hq))
 have nog : ∀ q, q < W.heap.size → fv.ownBlock ≠ some q → (Value.slice (some ⟨g, 0, none⟩) (fs.length + 1) c).ownBlock ≠ some q := fun q hq h2 e => by
  have e2 : g = q := Option.some.inj e
  rcases hat with h1 | h1
  · exact h2 (h1.trans (congrArg some e2))
  · omega
 have hfb : fv.ownBlock ≠ some bc := fun e => (h.fap bc e).1 rfl
 have hgb : g ≠ bc := fun e => nog bc hlt hfb (by rw [e]; rfl)
 have hbc : w6.heap[bc]? = W.heap[bc]? := (hg.block bc (Nat.lt_of_lt_of_le hlt hb.size) (fun e => hfb e.symm)).trans (hb.block bc hlt)
 have hb6 : Below w0.heap.size w0 w6 := Below.grown (h.m.bel.trans (hb.mono h.m.bel.size)) hg (Nat.le_trans h.m.bel.size hb.size) (fun q hq => (h.frow.lt q hq).1)
 have o1 : ∀ j, j ≠ 1 → (w6.setCell ⟨bc, 1, none⟩ (.slice (some ⟨g, 0, none⟩) (fs.length + 1) c)).cell? ⟨bc, j, none⟩ = W.cell? ⟨bc, j, none⟩ := fun j hj => (World.cell?_setCell_other _ _ _ _ (by intro hh; exact hj (congrArg Addr.off hh).symm)).trans (Kd.cell_kept hbc j)
 have hrf : ∀ q, rv.ownBlock = some q → fv.ownBlock ≠ some q := fun q hq e => (h.fap q e).2.1 hq
 refine ⟨?_, old⟩
 refine ⟨⟨hb6.setCell (p := ⟨bc, 1, none⟩) h.m.ge _, h.m.ge, (o1 0 (by omega)).trans h.m.c0, (o1 3 (by omega)).trans h.m.c3, fun i => by rw [World.frozen?_setCell]; exact (Kd.frz_kept hbc i).trans (h.m.fz i), Kd.ow_kept h.m.row (fun q hq => old q (h.m.row.lt q hq).2 (h.m.ap q hq) (hrf q hq)), h.m.ap⟩, World.cell?_setCell_same _ _ _ ((Kd.cell_kept hbc 1).trans h.c1), (o1 2 (by omega)).trans h.c2, ?_, Kd.ow_kept h.grow (fun q hq => old q (h.grow.lt q hq).2 (h.gap q hq).1 (fun e => (h.fap q e).2.2 hq)), h.tl, fun i t s ht hs => ?_, fun q hq => ?_, h.gap⟩
 · rw [List.length_append, List.map_append]
   exact Kd.ow_kept ho (fun q hq => by cases hq; exact Kd.set_other hgb)
 · have hz := h.at_ i t s ht hs
   exact ⟨hz.len, Kd.ow_kept hz.row (fun q hq => old q (hz.row.lt q hq).2 (hz.ap q hq).1 (hz.ap q hq).2.2.1), fun q hq => ⟨(hz.ap q hq).1, (hz.ap q hq).2.1, nog q (hz.row.lt q hq).2 (hz.ap q hq).2.2.1, (hz.ap q hq).2.2.2⟩⟩
 · refine ⟨by cases hq; exact hgb, fun e => nog q (h.m.row.lt q e).2 (hrf q e) hq, fun e => nog q (h.grow.lt q e).2 (fun e2 => (h.fap q e2).2.2 e) hq⟩
theorem Kd.N.addS {W1 W2 w6 : World} {t : Pg.Sl} {s : List Int} (h : Kd.N w0 W bc rv fv gv l a fs ts ss) (hb1 : Below W.heap.size W W1) (hr : W1.ownsRow W.heap.size 3 1 (Kd.sv t) s.length (s.map (Value.int .i64))) (htl : t.len = s.length) (hb2 : Below W1.heap.size W1 W2) (hg : W2.grownBy w6 gv.ownBlock) (g c : Nat) (ho : w6.ownsRow w0.heap.size 23 1 (.slice (some ⟨g, 0, none⟩) (ts.length + 1) c) (ts.length + 1) (ts.map Kd.sv ++ [Kd.sv t])) (hat : gv.ownBlock = some g ∨ W1.heap.size ≤ g) :
  Kd.N w0 (w6.setCell ⟨bc, 2, none⟩ (.slice (some ⟨g, 0, none⟩) (ts.length + 1) c)) bc rv fv (.slice (some ⟨g, 0, none⟩) (ts.length + 1) c) l a fs (ts ++ [t]) (ss ++ [s]) ∧ ∀ q, q < W.heap.size → q ≠ bc → gv.ownBlock ≠ some q → (w6.setCell ⟨bc, 2, none⟩ (.slice (some ⟨g, 0, none⟩) (ts.length + 1) c)).heap[q]? = W.heap[q]? := by
 have hb : Below W.heap.size W W2 := hb1.trans (hb2.mono hb1.size)
 have hlt := h.m.lt
 have old1 : ∀ q, q < W1.heap.size → q ≠ bc → gv.ownBlock ≠ some q → (w6.setCell ⟨bc, 2, none⟩ (.slice (some ⟨g, 0, none⟩) (ts.length + 1) c)).heap[q]? = W1.heap[q]? := fun q hq h1 h2 => (Kd.set_other h1).trans ((hg.block q (Nat.lt_of_lt_of_le hq hb2.size) (fun e => h2 e.symm)).trans (hb2.block q hq))
 have old : ∀ q, q < W.heap.size → q ≠ bc → gv.ownBlock ≠ some q → (w6.setCell ⟨bc, 2, none⟩ (.slice (some ⟨g, 0, none⟩) (ts.length + 1) c)).heap[q]? = W.heap[q]? := fun q hq h1 h2 => (old1 q (Nat.lt_of_lt_of_le hq hb1.size) h1 h2).trans (hb1.block q hq)
 have nog : ∀ q, q < W1.heap.size → gv.ownBlock ≠ some q → (Value.slice (some ⟨g, 0, none⟩) (ts.length + 1) c).ownBlock ≠ some q := fun q hq h2 e => by
  have e2 : g = q := Option.some.inj e
  rcases hat with h1 | h1
  · exact h2 (h1.trans (congrArg some e2))
  · omega
 have hs1 := hb1.size
 have hgvb : gv.ownBlock ≠ some bc := fun e => (h.gap bc e).1 rfl
 have hgb : g ≠ bc := fun e => nog bc (by omega) hgvb (by rw [e]; rfl)
 have hbc : w6.heap[bc]? = W.heap[bc]? := (hg.block bc (Nat.lt_of_lt_of_le hlt hb.size) (fun e => hgvb e.symm)).trans (hb.block bc hlt)
 have hb6 : Below w0.heap.size w0 w6 := Below.grown (h.m.bel.trans (hb.mono h.m.bel.size)) hg (Nat.le_trans h.m.bel.size hb.size) (fun q hq => (h.grow.lt q hq).1)
 have o2 : ∀ j, j ≠ 2 → (w6.setCell ⟨bc, 2, none⟩ (.slice (some ⟨g, 0, none⟩) (ts.length + 1) c)).cell? ⟨bc, j, none⟩ = W.cell? ⟨bc, j, none⟩ := fun j hj => (World.cell?_setCell_other _ _ _ _ (by intro hh; exact hj (congrArg Addr.off hh).symm)).trans (Kd.cell_kept hbc j)
 have hrg : ∀ q, rv.ownBlock = some q → gv.ownBlock ≠ some q := fun q hq e => (h.gap q e).2 hq
 have hfg : ∀ q, fv.ownBlock = some q → gv.ownBlock ≠ some q := fun q hq => (h.fap q hq).2.2
 refine ⟨?_, old⟩
 refine ⟨⟨hb6.setCell (p := ⟨bc, 2, none⟩) h.m.ge _, h.m.ge, (o2 0 (by omega)).trans h.m.c0, (o2 3 (by omega)).trans h.m.c3, fun i => by rw [World.frozen?_setCell]; exact (Kd.frz_kept hbc i).trans (h.m.fz i), Kd.ow_kept h.m.row (fun q hq => old q (h.m.row.lt q hq).2 (h.m.ap q hq) (hrg q hq)), h.m.ap⟩, (o2 1 (by omega)).trans h.c1, World.cell?_setCell_same _ _ _ ((Kd.cell_kept hbc 2).trans h.c2), Kd.ow_kept h.frow (fun q hq => old q (h.frow.lt q hq).2 (h.fap q hq).1 (hfg q hq)), ?_, by rw [List.length_append, List.length_append, h.tl]; rfl, fun i t' s' ht hs => ?_, fun q hq => ⟨(h.fap q hq).1, (h.fap q hq).2.1, nog q (by have := (h.frow.lt q hq).2; omega) (hfg q hq)⟩, fun q hq => ⟨by cases hq; exact hgb, fun e => nog q (by have := (h.m.row.lt q e).2; omega) (hrg q e) hq⟩⟩
 · rw [List.length_append, List.map_append]
   exact Kd.ow_kept ho (fun q hq => by cases hq; exact Kd.set_other hgb)
 · by_cases hi : i < ts.length
   · rw [List.getElem?_append_left hi] at ht
     rw [List.getElem?_append_left (by rw [← h.tl]; exact hi)] at hs
     have hz := h.at_ i t' s' ht hs
     exact ⟨hz.len, Kd.ow_kept hz.row (fun q hq => old q (hz.row.lt q hq).2 (hz.ap q hq).1 (hz.ap q hq).2.2.2), fun q hq => ⟨(hz.ap q hq).1, (hz.ap q hq).2.1, (hz.ap q hq).2.2.1, nog q (by have := (hz.row.lt q hq).2; omega) (hz.ap q hq).2.2.2⟩⟩
   · have htl2 := h.tl
     rw [List.getElem?_append_right (by omega)] at ht hs
     have hi0 : i - ts.length = 0 := by
      have := (List.getElem?_eq_some_iff.1 ht).1
      simp at this
      omega
     rw [hi0] at ht
     rw [← htl2, hi0] at hs
     have e1 : t = t' := by simpa using ht
     have e2 : s = s' := by simpa using hs
     subst e1 e2
     have lq : ∀ q, (Kd.sv t).ownBlock = some q → W.heap.size ≤ q ∧ q < W1.heap.size := fun q hq => hr.lt q hq
     have ng : ∀ q, (Kd.sv t).ownBlock = some q → gv.ownBlock ≠ some q := fun q hq e => by have h1 := (h.grow.lt q e).2; have h2 := (lq q hq).1; omega
     refine ⟨htl, Kd.ow_kept (World.ownsRow.mono hr h.m.bel.size) (fun q hq => old1 q (lq q hq).2 (fun e => by have := (lq q hq).1; omega) (ng q hq)), fun q hq => ⟨fun e => by have := (lq q hq).1; omega, fun e => by have h1 := (h.m.row.lt q e).2; have h2 := (lq q hq).1; omega, fun e => by have h1 := (h.frow.lt q e).2; have h2 := (lq q hq).1; omega, nog q (lq q hq).2 (ng q hq)⟩⟩
end
end Go.Proofs.YtpfogjplnodacaaGreat
