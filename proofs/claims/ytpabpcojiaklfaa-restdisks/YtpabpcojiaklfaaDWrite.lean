/-
  Contracts of Write of package disk. By the verifier.
-/
import Derived.Test.YtpabpcojiaklfaaDNew
namespace Go.Proofs.Ytpabpcojiaklfaa
open Go.RowKit
set_option linter.unusedVariables false

/-- What is wrong with a write to a disk. -/
def Dk.wrE (ks : List ByteArray) (ws : List (Int × ByteArray)) (n : Int) (s : ByteArray) : Nat :=
  if Dk.chk ks ws = 0 then (if Dk.chkW ks.length (n, s) = 0 then (if ws.length = 600 then 2 else 0) else Dk.chkW ks.length (n, s)) else Dk.chk ks ws

theorem Dk.RW.stored {w : World} {g : Nat} {l : List (Int × ByteArray)} (h : Dk.RW w (some ⟨g, 0, none⟩) l) {b : Nat} (hb : b < g) (o : Nat) (u v : Value) : Dk.RW ((w.setCell ⟨b, o, none⟩ u).setCell ⟨b, o + 1, none⟩ v) (some ⟨g, 0, none⟩) l := by
  refine ⟨fun i s hi => ?_⟩
  obtain ⟨bb, oo, h1, h2, h3, h4, h5⟩ := h.at_ i s hi
  cases h1
  have e : ∀ j, ((w.setCell ⟨b, o, none⟩ u).setCell ⟨b, o + 1, none⟩ v).cell? ⟨g, j, none⟩ = w.cell? ⟨g, j, none⟩ := fun j => by
    rw [World.cell?_setCell_other _ _ _ _ (by intro hh; have := congrArg Addr.block hh; simp at this; omega), World.cell?_setCell_other _ _ _ _ (by intro hh; have := congrArg Addr.block hh; simp at this; omega)]
  exact ⟨g, 0, rfl, by simpa using h2, by rw [e]; exact h3, by rw [e]; exact h4, h5⟩

/-- The world within the region of Write. -/
abbrev Dk.WS (w w2 : World) (b3 b9 : Nat) (A0 A1 : Value) (n : Int) (s : ByteArray) (W : World) : Prop :=
  W.cell? ⟨b3, 0, none⟩ = some A0 ∧ W.cell? ⟨b3, 1, none⟩ = some A1 ∧ W.cell? ⟨b9, 0, none⟩ = some (.int .i64 n) ∧ W.cell? ⟨b9, 1, none⟩ = some (.string s) ∧ Below w.heap.size w W ∧ w2.heap.size ≤ W.heap.size

/-- The result's variable, before it is stored. -/
structure Dk.D6 (b6 : Nat) (W : World) : Prop where
  c0 : W.cell? ⟨b6, 0, none⟩ = some (.slice none 0 0)
  c1 : W.cell? ⟨b6, 1, none⟩ = some (.slice none 0 0)
  f0 : W.frozen? ⟨b6, 0, none⟩ = false
  f1 : W.frozen? ⟨b6, 1, none⟩ = false
theorem Dk.D6.below {b6 : Nat} {W W' : World} (h : Dk.D6 b6 W) (hb : Below W.heap.size W W') : Dk.D6 b6 W' := by
  have hl : b6 < W.heap.size := World.block_lt_of_cell? W _ h.c0
  exact ⟨(hb.cell (p := ⟨b6, 0, none⟩) hl).trans h.c0, (hb.cell (p := ⟨b6, 1, none⟩) hl).trans h.c1, (hb.frozen (p := ⟨b6, 0, none⟩) hl).trans h.f0, (hb.frozen (p := ⟨b6, 1, none⟩) hl).trans h.f1⟩
theorem Dk.D6.alloc {b6 : Nat} {W : World} (h : Dk.D6 b6 W) (o : Obj) : Dk.D6 b6 (W.alloc o) := h.below ((Below.refl _ _).alloc (Nat.le_refl _) o)
theorem Dk.D6.grown {b6 B : Nat} {W W' : World} {v : Value} (h : Dk.D6 b6 W) (hg : W.grownBy W' v.ownBlock) (hl : ∀ q, v.ownBlock = some q → B ≤ q) (hb : b6 < B) : Dk.D6 b6 W' := by
  have hlt : b6 < W.heap.size := World.block_lt_of_cell? W _ h.c0
  have hne : some b6 ≠ v.ownBlock := by intro hh; have := hl _ hh.symm; omega
  exact ⟨(hg.cell_far ⟨b6, 0, none⟩ hlt hne).trans h.c0, (hg.cell_far ⟨b6, 1, none⟩ hlt hne).trans h.c1, (hg.frozen_far ⟨b6, 0, none⟩ hlt hne).trans h.f0, (hg.frozen_far ⟨b6, 1, none⟩ hlt hne).trans h.f1⟩

section
variable {w w2 : World} {b3 b9 : Nat} {A0 A1 : Value} {n : Int} {s : ByteArray} {W : World}

theorem Dk.WS.bel (h : Dk.WS w w2 b3 b9 A0 A1 n s W) : Below w.heap.size w W := h.2.2.2.2.1
theorem Dk.WS.le (h : Dk.WS w w2 b3 b9 A0 A1 n s W) : w2.heap.size ≤ W.heap.size := h.2.2.2.2.2
theorem Dk.le_of {W' : World} {e : TypeId} {size : Nat} {v : Value} {k : Nat} {xs : List Value} (_ : W'.ownsRow W.heap.size e size v k xs) (h : Dk.WS w w2 b3 b9 A0 A1 n s W) : w2.heap.size ≤ W.heap.size := h.le
theorem Dk.WS.drew (h : Dk.WS w w2 b3 b9 A0 A1 n s W) : Dk.WS w w2 b3 b9 A0 A1 n s W.drew := by
  obtain ⟨h1, h2, h3, h4, h9, h10⟩ := h
  exact ⟨h1, h2, h3, h4, h9.drew, h10⟩

theorem Dk.WS.below {W' : World} (h : Dk.WS w w2 b3 b9 A0 A1 n s W) (hb : Below W.heap.size W W') : Dk.WS w w2 b3 b9 A0 A1 n s W' := by
  obtain ⟨h1, h2, h3, h4, h9, h10⟩ := h
  have hz := hb.size
  have hz0 := h9.size
  refine ⟨?_, ?_, ?_, ?_, h9.trans (hb.mono hz0), by omega⟩
  · rw [hb.cell (World.block_lt_of_cell? W _ h1)]; exact h1
  · rw [hb.cell (World.block_lt_of_cell? W _ h2)]; exact h2
  · rw [hb.cell (World.block_lt_of_cell? W _ h3)]; exact h3
  · rw [hb.cell (World.block_lt_of_cell? W _ h4)]; exact h4
theorem Dk.WS.alloc (h : Dk.WS w w2 b3 b9 A0 A1 n s W) (o : Obj) : Dk.WS w w2 b3 b9 A0 A1 n s (W.alloc o) := h.below ((Below.refl _ _).alloc (Nat.le_refl _) o)
theorem Dk.WS.grown {W' : World} {v : Value} (h : Dk.WS w w2 b3 b9 A0 A1 n s W) (hg : W.grownBy W' v.ownBlock) (hl : ∀ q, v.ownBlock = some q → w2.heap.size ≤ q) (h3 : b3 < w2.heap.size) (h9 : b9 < w2.heap.size) (hw : w.heap.size ≤ w2.heap.size) : Dk.WS w w2 b3 b9 A0 A1 n s W' := by
  obtain ⟨g1, g2, g3, g4, g9, g10⟩ := h
  have hs := hg.size
  have far : ∀ b j, b < w2.heap.size → W'.cell? ⟨b, j, none⟩ = W.cell? ⟨b, j, none⟩ := fun b j hb => hg.cell_far ⟨b, j, none⟩ (show b < _ by omega) (by intro hh; have := hl _ hh.symm; simp at this; omega)
  refine ⟨?_, ?_, ?_, ?_, g9.grown hg (by omega) (fun q hq => by have := hl q hq; omega), by omega⟩
  · rw [far _ _ h3]; exact g1
  · rw [far _ _ h3]; exact g2
  · rw [far _ _ h9]; exact g3
  · rw [far _ _ h9]; exact g4
theorem Dk.WS.stored {b6 : Nat} (h : Dk.WS w w2 b3 b9 A0 A1 n s W) (h36 : b3 ≠ b6) (h96 : b9 ≠ b6) (hw : w.heap.size ≤ b6) (u v : Value) : Dk.WS w w2 b3 b9 A0 A1 n s ((W.setCell ⟨b6, 0, none⟩ u).setCell ⟨b6, 1, none⟩ v) := by
  obtain ⟨g1, g2, g3, g4, g9, g10⟩ := h
  have e : ∀ b j, b ≠ b6 → ((W.setCell ⟨b6, 0, none⟩ u).setCell ⟨b6, 1, none⟩ v).cell? ⟨b, j, none⟩ = W.cell? ⟨b, j, none⟩ := fun b j hb => by
    rw [World.cell?_setCell_other _ _ _ _ (by intro hh; have := congrArg Addr.block hh; simp at this; omega), World.cell?_setCell_other _ _ _ _ (by intro hh; have := congrArg Addr.block hh; simp at this; omega)]
  refine ⟨?_, ?_, ?_, ?_, (g9.setCell (by show _ ≤ b6; omega) _).setCell (by show _ ≤ b6; omega) _, by simpa using g10⟩
  · rw [e _ _ h36]; exact g1
  · rw [e _ _ h36]; exact g2
  · rw [e _ _ h96]; exact g3
  · rw [e _ _ h96]; exact g4
end

/-- Sectors of the call's own, that lie. -/
structure Dk.TK (B : Nat) (ks : List ByteArray) (g : Nat) (W : World) : Prop where
  lo : B ≤ g
  hi : g < W.heap.size
  rk : Dk.RK W (some ⟨g, 0, none⟩) ks
  fr : ∀ i, W.frozen? ⟨g, i, none⟩ = false
theorem Dk.TK.below {B g : Nat} {ks : List ByteArray} {W W' : World} (h : Dk.TK B ks g W) (hb : Below W.heap.size W W') : Dk.TK B ks g W' := ⟨h.lo, by have := hb.size; have := h.hi; omega, h.rk.later hb (Nat.le_refl _), fun i => (hb.frozen (p := ⟨g, i, none⟩) h.hi).trans (h.fr i)⟩
theorem Dk.TK.alloc {B g : Nat} {ks : List ByteArray} {W : World} (h : Dk.TK B ks g W) (o : Obj) : Dk.TK B ks g (W.alloc o) := h.below ((Below.refl _ _).alloc (Nat.le_refl _) o)
theorem Dk.TK.grown {B g : Nat} {ks : List ByteArray} {W W' : World} {v : Value} (h : Dk.TK B ks g W) (hg : W.grownBy W' v.ownBlock) (hne : v.ownBlock ≠ some g) : Dk.TK B ks g W' := by
  refine ⟨h.lo, by have := hg.size; have := h.hi; omega, ⟨fun i s hi => ?_⟩, fun i => (World.frozen?_of_block (a := ⟨g, i, none⟩) (hg.block g h.hi (fun hh => hne hh.symm))).trans (h.fr i)⟩
  obtain ⟨b, o, h1, h2, h3, h4⟩ := h.rk.at_ i s hi
  cases h1
  exact ⟨g, 0, rfl, by have := hg.size; omega, by rw [hg.cell_far _ h2 (fun hh => hne hh.symm)]; exact h3, h4⟩
/-- Writes of the call's own, that lie. -/
structure Dk.TW (B : Nat) (ws : List (Int × ByteArray)) (g : Nat) (W : World) : Prop where
  lo : B ≤ g
  hi : g < W.heap.size
  rw_ : Dk.RW W (some ⟨g, 0, none⟩) ws
  fr : ∀ i, W.frozen? ⟨g, i, none⟩ = false
theorem Dk.TW.below {B g : Nat} {ks : List (Int × ByteArray)} {W W' : World} (h : Dk.TW B ks g W) (hb : Below W.heap.size W W') : Dk.TW B ks g W' := ⟨h.lo, by have := hb.size; have := h.hi; omega, h.rw_.later hb (Nat.le_refl _), fun i => (hb.frozen (p := ⟨g, i, none⟩) h.hi).trans (h.fr i)⟩

theorem Dk.TK.of {B g cap n : Nat} {ks : List ByteArray} {W W' : World} (h : W'.ownsRow W.heap.size 9 1 (.slice (some ⟨g, 0, none⟩) n cap) n (ks.map Value.string)) (hB : B ≤ W.heap.size) (hs : ∀ s ∈ ks, s.size ≤ maxLen) : Dk.TK B ks g W' :=
  have o := Dk.Own.of h
  ⟨by have := o.base_le; omega, o.lt, o.reads hs, o.fr⟩

theorem Dk.ow_base {W : World} {B B' : Nat} {e : TypeId} {size : Nat} {v : Value} {n : Nat} {xs : List Value} (h : W.ownsRow B e size v n xs) (hB : B' ≤ B) : W.ownsRow B' e size v n xs := by
  refine ⟨h.1, ?_⟩
  rcases h.2 with h | ⟨g, cap, cur, h1, h2, r⟩
  · exact .inl h
  · exact .inr ⟨g, cap, cur, h1, by omega, r⟩
theorem Dk.ow_below {W W' : World} {B : Nat} {e : TypeId} {size : Nat} {v : Value} {n : Nat} {xs : List Value} (h : W.ownsRow B e size v n xs) (hb : Below W.heap.size W W') : W'.ownsRow B e size v n xs := by
  refine ⟨h.1, ?_⟩
  rcases h.2 with h | ⟨g, cap, cur, h1, h2, h3, r⟩
  · exact .inl h
  · exact .inr ⟨g, cap, cur, h1, h2, (hb.block g (Array.getElem?_eq_some_iff.1 h3).1).trans h3, r⟩
theorem Dk.ow_alloc {W : World} {B : Nat} {e : TypeId} {size : Nat} {v : Value} {n : Nat} {xs : List Value} (h : W.ownsRow B e size v n xs) (o : Obj) : (W.alloc o).ownsRow B e size v n xs := Dk.ow_below h ((Below.refl _ _).alloc (Nat.le_refl _) o)
theorem Dk.ne_of {W W' : World} {B : Nat} {e : TypeId} {size : Nat} {v : Value} {n m g cap : Nat} {xs ys : List Value} (h : W.ownsRow B e size v n xs) (h2 : W'.ownsRow W.heap.size 9 1 (.slice (some ⟨g, 0, none⟩) m cap) m ys) : v.ownBlock ≠ some g := by
  intro hh
  have := (h.lt g hh).2
  have := (h2.lt g rfl).1
  omega
theorem Dk.ne_of2 {W W' : World} {B g : Nat} {ks : List ByteArray} {e : TypeId} {size : Nat} {v : Value} {n : Nat} {xs : List Value} (h : Dk.TK B ks g W) (h2 : W'.ownsRow W.heap.size e size v n xs) : v.ownBlock ≠ some g := by
  intro hh
  have := (h2.lt g hh).1
  have := h.hi
  omega
theorem Dk.sb_of {W W' : World} {cs : Array Value} {t : TypeId} (hb : Below (W.alloc (.cells cs t)).heap.size (W.alloc (.cells cs t)) W') : W'.heap[W.heap.size]? = some (.cells cs t (0, 0)) :=
  (hb.block W.heap.size (by simp)).trans (heap_alloc_new W _)
theorem Dk.sb_below {W W' : World} {k : Nat} {o : Obj} (h : W.heap[k]? = some o) (hb : Below W.heap.size W W') : W'.heap[k]? = some o :=
  (hb.block k (Array.getElem?_eq_some_iff.1 h).1).trans h

theorem Dk.TW.of {W : World} {B g cap : Nat} {ws : List (Int × ByteArray)} {x : Int × ByteArray} (h : W.ownsRow B 68 2 (.slice (some ⟨g, 0, none⟩) (ws.length + 1) cap) (ws.length + 1) (Dk.wcells ws ++ [.int .i64 x.1, .string x.2])) (hs : ∀ y ∈ ws, y.2.size ≤ maxLen) (hx : x.2.size ≤ maxLen) : Dk.TW B (ws ++ [x]) g W := by
  obtain ⟨h1, h2⟩ := h.lt g rfl
  refine ⟨h1, h2, ⟨fun i y hi => ?_⟩, fun i => h.frozenAt i⟩
  have e : Dk.wcells ws ++ [.int .i64 x.1, .string x.2] = Dk.wcells (ws ++ [x]) := by simp [Dk.wcells]
  rw [e] at h
  obtain ⟨w0, w1⟩ := Dk.wcells_at _ i y hi
  have c0 := h.cells (g := g) rfl _ _ w0
  have c1 := h.cells (g := g) rfl _ _ w1
  rw [Dk.add_at, Nat.zero_add] at c0 c1
  refine ⟨g, 0, rfl, h2, by rw [Nat.zero_add]; exact c0, by rw [Nat.zero_add]; exact c1, ?_⟩
  rcases List.mem_append.1 (List.mem_of_getElem? hi) with hm | hm
  · exact hs y hm
  · rw [List.mem_singleton] at hm; subst hm; exact hx
end Go.Proofs.Ytpabpcojiaklfaa
