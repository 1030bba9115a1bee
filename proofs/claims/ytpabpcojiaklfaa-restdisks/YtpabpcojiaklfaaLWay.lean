/-
  The contract of log's wayTo. By the verifier.
-/
import Derived.Test.YtpabpcojiaklfaaLFormat
namespace Go.Proofs.Ytpabpcojiaklfaa
open Go.RowKit
set_option linter.unusedVariables false

theorem Try.infoD : (Try.prog.info? 29).map (fun i => (i.zero, i.size, i.bytes)) = some (some (.agg #[.slice none 0 0, .slice none 0 0]), 2, 48) := by kernel_rfl

/-- The variables of wayTo, and the way so far. -/
structure Lg.St (W : World) (B bn bw : Nat) (N0 N1 v : Value) (k : Nat) (cs : List Value) : Prop where
  c0 : W.cell? ⟨bn, 0, none⟩ = some N0
  c1 : W.cell? ⟨bn, 1, none⟩ = some N1
  f0 : W.frozen? ⟨bn, 0, none⟩ = false
  f1 : W.frozen? ⟨bn, 1, none⟩ = false
  d0 : W.cell? ⟨bw, 0, none⟩ = some v
  df : W.frozen? ⟨bw, 0, none⟩ = false
  row : W.ownsRow B 29 2 v k cs
theorem Lg.St.below {W W' : World} {B bn bw : Nat} {N0 N1 v : Value} {k : Nat} {cs : List Value} (h : Lg.St W B bn bw N0 N1 v k cs) (hb : Below W.heap.size W W') : Lg.St W' B bn bw N0 N1 v k cs := by
  have h1 : bn < W.heap.size := World.block_lt_of_cell? W _ h.c0
  have h2 : bw < W.heap.size := World.block_lt_of_cell? W _ h.d0
  exact ⟨(hb.cell (p := ⟨bn, 0, none⟩) h1).trans h.c0, (hb.cell (p := ⟨bn, 1, none⟩) h1).trans h.c1, (hb.frozen (p := ⟨bn, 0, none⟩) h1).trans h.f0, (hb.frozen (p := ⟨bn, 1, none⟩) h1).trans h.f1, (hb.cell (p := ⟨bw, 0, none⟩) h2).trans h.d0, (hb.frozen (p := ⟨bw, 0, none⟩) h2).trans h.df, Dk.ow_below h.row hb⟩
theorem Lg.St.alloc {W : World} {B bn bw : Nat} {N0 N1 v : Value} {k : Nat} {cs : List Value} (h : Lg.St W B bn bw N0 N1 v k cs) (o : Obj) : Lg.St (W.alloc o) B bn bw N0 N1 v k cs := h.below ((Below.refl _ _).alloc (Nat.le_refl _) o)
theorem Lg.St.now {W : World} {B bn bw : Nat} {N0 N1 v : Value} {k : Nat} {cs : List Value} (h : Lg.St W B bn bw N0 N1 v k cs) (hB : bn < B) (hne : bn ≠ bw) (u0 u1 : Value) : Lg.St ((W.setCell ⟨bn, 0, none⟩ u0).setCell ⟨bn, 1, none⟩ u1) B bn bw u0 u1 v k cs := by
  refine ⟨?_, ?_, ?_, ?_, ?_, ?_, ?_⟩
  · rw [World.cell?_setCell_other _ _ _ _ (by intro hh; have := congrArg Addr.off hh; simp at this)]
    exact World.cell?_setCell_same _ _ _ h.c0
  · exact World.cell?_setCell_same _ _ _ (u := N1) (by rw [World.cell?_setCell_other _ _ _ _ (by intro hh; have := congrArg Addr.off hh; simp at this)]; exact h.c1)
  · rw [World.frozen?_setCell, World.frozen?_setCell]; exact h.f0
  · rw [World.frozen?_setCell, World.frozen?_setCell]; exact h.f1
  · rw [World.cell?_setCell_other _ _ _ _ (by intro hh; have := congrArg Addr.block hh; simp at this; omega), World.cell?_setCell_other _ _ _ _ (by intro hh; have := congrArg Addr.block hh; simp at this; omega)]; exact h.d0
  · rw [World.frozen?_setCell, World.frozen?_setCell]; exact h.df
  · exact ownsRow_setCell_below (ownsRow_setCell_below h.row hB _) hB _

/-- What holds of the variables behind the append, while the way's variable is the old one. -/
structure Lg.St5 (W : World) (B bn bw : Nat) (N0 N1 v v' : Value) (k : Nat) (cs : List Value) : Prop where
  c0 : W.cell? ⟨bn, 0, none⟩ = some N0
  c1 : W.cell? ⟨bn, 1, none⟩ = some N1
  f0 : W.frozen? ⟨bn, 0, none⟩ = false
  f1 : W.frozen? ⟨bn, 1, none⟩ = false
  d0 : W.cell? ⟨bw, 0, none⟩ = some v
  df : W.frozen? ⟨bw, 0, none⟩ = false
  row : W.ownsRow B 29 2 v' k cs
theorem Lg.St.grow {W W' : World} {B bn bw : Nat} {N0 N1 v v' : Value} {k k' : Nat} {cs cs' : List Value} (h : Lg.St W B bn bw N0 N1 v k cs) (hg : W.grownBy W' v.ownBlock) (ho : W'.ownsRow B 29 2 v' k' cs') (hn : bn < B) (hw : bw < B) : Lg.St5 W' B bn bw N0 N1 v v' k' cs' := by
  have h1 : bn < W.heap.size := World.block_lt_of_cell? W _ h.c0
  have h2 : bw < W.heap.size := World.block_lt_of_cell? W _ h.d0
  have l : ∀ q, v.ownBlock = some q → B ≤ q := fun q hq => (h.row.lt q hq).1
  have e1 : some bn ≠ v.ownBlock := fun e => by have := l _ e.symm; omega
  have e2 : some bw ≠ v.ownBlock := fun e => by have := l _ e.symm; omega
  exact ⟨(hg.cell_far ⟨bn, 0, none⟩ h1 e1).trans h.c0, (hg.cell_far ⟨bn, 1, none⟩ h1 e1).trans h.c1, (hg.frozen_far ⟨bn, 0, none⟩ h1 e1).trans h.f0, (hg.frozen_far ⟨bn, 1, none⟩ h1 e1).trans h.f1, (hg.cell_far ⟨bw, 0, none⟩ h2 e2).trans h.d0, (hg.frozen_far ⟨bw, 0, none⟩ h2 e2).trans h.df, ho⟩
theorem Lg.St5.way {W : World} {B bn bw : Nat} {N0 N1 v v' : Value} {k : Nat} {cs : List Value} (h : Lg.St5 W B bn bw N0 N1 v v' k cs) (hw : bw < B) (hne : bn ≠ bw) : Lg.St (W.setCell ⟨bw, 0, none⟩ v') B bn bw N0 N1 v' k cs := by
  have o : ∀ j, (W.setCell ⟨bw, 0, none⟩ v').cell? ⟨bn, j, none⟩ = W.cell? ⟨bn, j, none⟩ := fun j => World.cell?_setCell_other _ _ _ _ (by intro hh; have := congrArg Addr.block hh; simp at this; omega)
  exact ⟨(o 0).trans h.c0, (o 1).trans h.c1, by rw [World.frozen?_setCell]; exact h.f0, by rw [World.frozen?_setCell]; exact h.f1, World.cell?_setCell_same _ _ _ h.d0, by rw [World.frozen?_setCell]; exact h.df, ownsRow_setCell_below h.row hw _⟩

/-- What a step leaves as it was. -/
structure Lg.But (bn bw : Nat) (v : Value) (W W' : World) : Prop where
  os : W'.os = W.os
  tape : W'.tape = W.tape
  output : W'.output = W.output
  size : W.heap.size ≤ W'.heap.size
  block : ∀ q, q < W.heap.size → q ≠ bn → q ≠ bw → v.ownBlock ≠ some q → W'.heap[q]? = W.heap[q]?

theorem Lg.But.now (W : World) (bn bw : Nat) (v u0 u1 : Value) : Lg.But bn bw v W ((W.setCell ⟨bn, 0, none⟩ u0).setCell ⟨bn, 1, none⟩ u1) :=
  ⟨rfl, rfl, rfl, by simp [World.setCell], fun q _ h1 _ _ => by rw [Below.heap_setCell _ _ _ _ (by exact h1), Below.heap_setCell _ _ _ _ (by exact h1)]⟩
theorem Lg.But.trans {bn bw : Nat} {v : Value} {W1 W2 W3 : World} (h : Lg.But bn bw v W1 W2) (k : Lg.But bn bw v W2 W3) : Lg.But bn bw v W1 W3 :=
  ⟨k.os.trans h.os, k.tape.trans h.tape, k.output.trans h.output, Nat.le_trans h.size k.size, fun q h1 h2 h3 h4 => (k.block q (Nat.lt_of_lt_of_le h1 h.size) h2 h3 h4).trans (h.block q h1 h2 h3 h4)⟩
theorem Lg.But.below {bn bw : Nat} {v : Value} {W W' : World} (h : Below W.heap.size W W') : Lg.But bn bw v W W' := ⟨h.os, h.tape, h.output, h.size, fun q h1 _ _ _ => h.block q h1⟩
theorem Lg.But.grown {bn bw : Nat} {v : Value} {W W' : World} (h : W.grownBy W' v.ownBlock) : Lg.But bn bw v W W' := ⟨h.os, h.tape, h.output, h.size, fun q h1 _ _ h4 => h.block q h1 (fun e => h4 e.symm)⟩
theorem Lg.But.way (W : World) (bn bw : Nat) (v u : Value) : Lg.But bn bw v W (W.setCell ⟨bw, 0, none⟩ u) :=
  ⟨rfl, rfl, rfl, by simp [World.setCell], fun q _ _ h2 _ => by rw [Below.heap_setCell _ _ _ _ (by exact h2)]⟩

set_option maxRecDepth 100000 in
set_option maxHeartbeats 1600000 in
theorem step_any (a0 a1 : Option Addr) (n0 n1 k0 k1 : Nat) (e : Int) (bn bw B k : Nat) (N0 N1 : Value) (av : Option Addr) (cv : Nat) (cs : List Value) (w : World) (hst : Lg.St w B bn bw N0 N1 (.slice av k cv) k cs) (hn : bn < B) (hw : bw < B) (hne : bn ≠ bw) (hk : k ≤ 1000) (hB : B ≤ w.heap.size) :
    Calls Try.prog 73 #[.agg #[.slice a0 n0 k0, .slice a1 n1 k1], .int .i64 e, .pointer (some ⟨bn, 0, none⟩), .pointer (some ⟨bw, 0, none⟩)] w fun r w' => ∃ g c, r = .returned (.tuple #[]) ∧ Lg.St w' B bn bw (.slice a0 n0 k0) (.slice a1 n1 k1) (.slice (some ⟨g, 0, none⟩) (k + 1) c) (k + 1) (cs ++ [.slice a0 n0 k0, .slice a1 n1 k1]) ∧ ((Value.slice av k cv).ownBlock = some g ∨ w.heap.size ≤ g) ∧ Lg.But bn bw (.slice av k cv) w w' := by
  have h1 : bn < w.heap.size := World.block_lt_of_cell? w _ hst.c0
  have h2 : bw < w.heap.size := World.block_lt_of_cell? w _ hst.d0
  have st2 := hst.now hn hne (.slice a0 n0 k0) (.slice a1 n1 k1)
  have HS2 := hide st2
  have p0 := hst.c0
  have p1 := hst.c1
  have q0 := hst.f0
  have q1 := hst.f1
  obtain ⟨i0, hi0, hz0, hz1', hz2⟩ := info_of Try.infoD
  have HI := hide hi0
  have HZ0 := hide hz0
  have HZ1 := hide hz1'
  have HZ2 := hide hz2
  have HST := hide hst
  clear hi0 hz0 hz1' hz2 st2 hst
  go_enter Try.func73, Try.ntmps73
  go_upto_region 2 with fail
  have HBN := hide (Lg.But.now w bn bw (.slice av k cv) (.slice a0 n0 k0) (.slice a1 n1 k1))
  have hsz : ((w.setCell ⟨bn, 0, none⟩ (.slice a0 n0 k0)).setCell ⟨bn, 1, none⟩ (.slice a1 n1 k1)).heap.size = w.heap.size := by simp
  generalize (w.setCell ⟨bn, 0, none⟩ (.slice a0 n0 k0)).setCell ⟨bn, 1, none⟩ (.slice a1 n1 k1) = Wn at HS2 HBN hsz ⊢
  rw [← hsz] at h1 h2 hB ⊢
  have d0 := (unhide HS2).d0
  have HO1 := hide ((unhide HS2).alloc (Obj.cells #[.slice a0 n0 k0, .slice a1 n1 k1] 29))
  have HOA := hide ((unhide HO1).alloc (Obj.cells #[.slice a0 n0 k0, .slice a1 n1 k1] 29))
  have HBK := hide (heap_alloc_new (Wn.alloc (Obj.cells #[.slice a0 n0 k0, .slice a1 n1 k1] 29)) (Obj.cells #[.slice a0 n0 k0, .slice a1 n1 k1] 29))
  have HSZ := hide hsz
  clear p0 p1 q0 q1 hsz
  go_wp2_with (at_builtin; refine wpList_append_lies _ (by rfl) _ _ _ (by rfl) B 29 i0 _ 2 48 Try.underlying36 (unhide HI) (unhide HZ0) (unhide HZ1) (unhide HZ2) rfl (by omega) (.slice av k cv) k cs (by rfl) (unhide HOA).row ⟨Wn.heap.size + 1, 0, none⟩ 1 1 [.slice a0 n0 k0, .slice a1 n1 k1] (by rfl) (by rfl) (World.news_of_block (by simpa using unhide HBK)) (by simp [Value.oneCell']) (by omega) (by unfold maxLen; omega) (by omega) (by simp; omega) (Wn.heap.size + 2) (by simp) ?_; intro g2 cap2 w5 hown3 hgrow3 hat3 hlt3; have HO5 := hide hown3; have HG5 := hide hgrow3; have HAT := hide hat3; have hst5 := Lg.St.grow (unhide HOA) hgrow3 hown3 hn hw; have z0 := hst5.d0; have zf := hst5.df; have HS5 := hide hst5; clear hown3 hgrow3 hat3 hst5)
  have hfin : ∃ g c, Lg.St (w5.setCell ⟨bw, 0, none⟩ (.slice (some ⟨g2, 0, none⟩) (k + 1) cap2)) B bn bw (.slice a0 n0 k0) (.slice a1 n1 k1) (.slice (some ⟨g, 0, none⟩) (k + 1) c) (k + 1) (cs ++ [.slice a0 n0 k0, .slice a1 n1 k1]) ∧ ((Value.slice av k cv).ownBlock = some g ∨ w.heap.size ≤ g) ∧ Lg.But bn bw (.slice av k cv) w (w5.setCell ⟨bw, 0, none⟩ (.slice (some ⟨g2, 0, none⟩) (k + 1) cap2)) := by
    refine ⟨g2, cap2, (unhide HS5).way hw hne, ?_, ?_⟩
    · rcases unhide HAT with h | h
      · exact Or.inl h
      · exact Or.inr (by have := unhide HSZ; omega)
    · exact (((unhide HBN).trans (Lg.But.below (((Below.refl Wn.heap.size Wn).alloc (Nat.le_refl _) _).alloc (by simp) _))).trans (Lg.But.grown (unhide HG5))).trans (Lg.But.way _ _ _ _ _)
  obtain ⟨g, c, f1, f2, f3⟩ := hfin
  exact bodyPost_end (v := .tuple #[]) (by simp [results, Try.results73, go_sem]) rfl ⟨g, c, rfl, f1, f2, f3⟩
end Go.Proofs.Ytpabpcojiaklfaa
