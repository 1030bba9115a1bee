/-
  Variables of two cells. By the verifier.
-/
import Derived.Test.YtpabpcojiaklfaaDWriteW
import Derived.Deep.DeepCutAuto
namespace Go.Proofs.Ytpabpcojiaklfaa
open Go.RowKit
set_option linter.unusedVariables false

/-- A variable of two cells. -/
structure Dk.Bx (b : Nat) (A0 A1 : Value) (W : World) : Prop where
  c0 : W.cell? ⟨b, 0, none⟩ = some A0
  c1 : W.cell? ⟨b, 1, none⟩ = some A1
theorem Dk.Bx.below {b : Nat} {A0 A1 : Value} {W W' : World} (h : Dk.Bx b A0 A1 W) (hb : Below W.heap.size W W') : Dk.Bx b A0 A1 W' := by
  have hl : b < W.heap.size := World.block_lt_of_cell? W _ h.c0
  exact ⟨(hb.cell (p := ⟨b, 0, none⟩) hl).trans h.c0, (hb.cell (p := ⟨b, 1, none⟩) hl).trans h.c1⟩
theorem Dk.Bx.alloc {b : Nat} {A0 A1 : Value} {W : World} (h : Dk.Bx b A0 A1 W) (o : Obj) : Dk.Bx b A0 A1 (W.alloc o) := h.below ((Below.refl _ _).alloc (Nat.le_refl _) o)
theorem Dk.Bx.made (W : World) (A0 A1 : Value) (t : TypeId) : Dk.Bx W.heap.size A0 A1 (W.alloc (.cells #[A0, A1] t)) := ⟨by go_simp, by go_simp⟩
theorem Dk.Bx.lt {b : Nat} {A0 A1 : Value} {W : World} (h : Dk.Bx b A0 A1 W) : b < W.heap.size := World.block_lt_of_cell? W _ h.c0
theorem Dk.RK.alloc {w : World} {ad : Option Addr} {l : List ByteArray} (h : Dk.RK w ad l) (o : Obj) : Dk.RK (w.alloc o) ad l := h.later ((Below.refl w.heap.size w).alloc (Nat.le_refl _) o) (Nat.le_refl _)
theorem Dk.RW.alloc {w : World} {ad : Option Addr} {l : List (Int × ByteArray)} (h : Dk.RW w ad l) (o : Obj) : Dk.RW (w.alloc o) ad l := h.later ((Below.refl w.heap.size w).alloc (Nat.le_refl _) o) (Nat.le_refl _)
theorem Dk.RB.alloc {w : World} {ad : Option Addr} {l : List Bool} (h : Dk.RB w ad l) (o : Obj) : Dk.RB (w.alloc o) ad l := h.later ((Below.refl w.heap.size w).alloc (Nat.le_refl _) o) (Nat.le_refl _)
theorem Dk.RW.nil (w : World) (ad : Option Addr) : Dk.RW w ad [] := ⟨fun i s h => by simp at h⟩
theorem Dk.RK.nil (w : World) (ad : Option Addr) : Dk.RK w ad [] := ⟨fun i s h => by simp at h⟩

abbrev Dk.BS (w1 : World) (A0 A1 : Value) (W : World) : Prop :=
  W.cell? ⟨w1.heap.size, 0, none⟩ = some A0 ∧ W.cell? ⟨w1.heap.size, 1, none⟩ = some A1 ∧ Below w1.heap.size w1 W

section
variable {w1 : World} {A0 A1 : Value} {W W' : World}
theorem Dk.BS.bel (h : Dk.BS w1 A0 A1 W) : Below w1.heap.size w1 W := h.2.2
theorem Dk.BS.drew (h : Dk.BS w1 A0 A1 W) : Dk.BS w1 A0 A1 W.drew := ⟨h.1, h.2.1, h.2.2.drew⟩
theorem Dk.BS.below (h : Dk.BS w1 A0 A1 W) (hb : Below W.heap.size W W') : Dk.BS w1 A0 A1 W' := by
  obtain ⟨h1, h2, h3⟩ := h
  have hz := h3.size
  refine ⟨?_, ?_, h3.trans (hb.mono hz)⟩
  · rw [hb.cell (World.block_lt_of_cell? W _ h1)]; exact h1
  · rw [hb.cell (World.block_lt_of_cell? W _ h2)]; exact h2
theorem Dk.BS.alloc (h : Dk.BS w1 A0 A1 W) (o : Obj) : Dk.BS w1 A0 A1 (W.alloc o) := h.below ((Below.refl _ _).alloc (Nat.le_refl _) o)
theorem Dk.BS.stored {b : Nat} (h : Dk.BS w1 A0 A1 W) (hb : w1.heap.size < b) (u v : Value) : Dk.BS w1 A0 A1 ((W.setCell ⟨b, 0, none⟩ u).setCell ⟨b, 1, none⟩ v) := by
  obtain ⟨h1, h2, h3⟩ := h
  have e : ∀ j, ((W.setCell ⟨b, 0, none⟩ u).setCell ⟨b, 1, none⟩ v).cell? ⟨w1.heap.size, j, none⟩ = W.cell? ⟨w1.heap.size, j, none⟩ := fun j => by
    rw [World.cell?_setCell_other _ _ _ _ (by intro hh; have := congrArg Addr.block hh; simp at this; omega), World.cell?_setCell_other _ _ _ _ (by intro hh; have := congrArg Addr.block hh; simp at this; omega)]
  exact ⟨(e 0).trans h1, (e 1).trans h2, (h3.setCell (by show _ ≤ b; omega) _).setCell (by show _ ≤ b; omega) _⟩
theorem Dk.BS.lt (h : Dk.BS w1 A0 A1 W) : w1.heap.size < W.heap.size := World.block_lt_of_cell? W _ h.1
theorem Dk.BS.bx (h : Dk.BS w1 A0 A1 W) : Dk.Bx w1.heap.size A0 A1 W := ⟨h.1, h.2.1⟩
end

theorem Dk.D6.made (W : World) (t : TypeId) : Dk.D6 W.heap.size (W.alloc (.cells #[.slice none 0 0, .slice none 0 0] t)) := ⟨by go_simp, by go_simp, by go_simp, by go_simp⟩
theorem Dk.Bx.stored {b : Nat} {W : World} (h : Dk.D6 b W) (u v : Value) : Dk.Bx b u v ((W.setCell ⟨b, 0, none⟩ u).setCell ⟨b, 1, none⟩ v) := by
  constructor
  · rw [World.cell?_setCell_other _ _ _ _ (by intro hh; have := congrArg Addr.off hh; simp at this)]
    exact World.cell?_setCell_same _ _ _ h.c0
  · exact World.cell?_setCell_same _ _ _ (u := .slice none 0 0) (by rw [World.cell?_setCell_other _ _ _ _ (by intro hh; have := congrArg Addr.off hh; simp at this)]; exact h.c1)
/-- Reads of a row are as they were, where a variable's two cells are stored that is no row. -/
theorem Dk.RK.set2 {w : World} {ad : Option Addr} {l : List ByteArray} (h : Dk.RK w ad l) {b : Nat} (hb : ∀ g o, ad = some ⟨g, o, none⟩ → b ≠ g) (u v : Value) : Dk.RK ((w.setCell ⟨b, 0, none⟩ u).setCell ⟨b, 1, none⟩ v) ad l := by
  refine ⟨fun i s hi => ?_⟩
  obtain ⟨g, o, h1, h2, h3, h4⟩ := h.at_ i s hi
  have := hb g o h1
  exact ⟨g, o, h1, by simpa using h2, by rw [World.cell?_setCell_other _ _ _ _ (by intro hh; have := congrArg Addr.block hh; simp at this; omega), World.cell?_setCell_other _ _ _ _ (by intro hh; have := congrArg Addr.block hh; simp at this; omega)]; exact h3, h4⟩
theorem Dk.RW.set2 {w : World} {ad : Option Addr} {l : List (Int × ByteArray)} (h : Dk.RW w ad l) {b : Nat} (hb : ∀ g o, ad = some ⟨g, o, none⟩ → b ≠ g) (u v : Value) : Dk.RW ((w.setCell ⟨b, 0, none⟩ u).setCell ⟨b, 1, none⟩ v) ad l := by
  refine ⟨fun i s hi => ?_⟩
  obtain ⟨g, o, h1, h2, h3, h4, h5⟩ := h.at_ i s hi
  have := hb g o h1
  exact ⟨g, o, h1, by simpa using h2, by rw [World.cell?_setCell_other _ _ _ _ (by intro hh; have := congrArg Addr.block hh; simp at this; omega), World.cell?_setCell_other _ _ _ _ (by intro hh; have := congrArg Addr.block hh; simp at this; omega)]; exact h3, by rw [World.cell?_setCell_other _ _ _ _ (by intro hh; have := congrArg Addr.block hh; simp at this; omega), World.cell?_setCell_other _ _ _ _ (by intro hh; have := congrArg Addr.block hh; simp at this; omega)]; exact h4, h5⟩

theorem Dk.ne_rk {b g : Nat} {W : World} {t : ByteArray} {l : List ByteArray} (h : Dk.D6 b W) (r : Dk.RK W (some ⟨g, 0, none⟩) (t :: l)) : ∀ g' o', some (⟨g, 0, none⟩ : Addr) = some ⟨g', o', none⟩ → b ≠ g' := by
  intro g' o' e hb
  cases e
  obtain ⟨bb, oo, h1, h2, h3, h4⟩ := r.at_ 0 t rfl
  cases h1
  subst hb
  rw [show (0 + 0 : Nat) = 0 from rfl, h.c0] at h3
  cases h3
theorem Dk.ne_rw {b g : Nat} {W : World} {t : Int × ByteArray} {l : List (Int × ByteArray)} (h : Dk.D6 b W) (r : Dk.RW W (some ⟨g, 0, none⟩) (t :: l)) : ∀ g' o', some (⟨g, 0, none⟩ : Addr) = some ⟨g', o', none⟩ → b ≠ g' := by
  intro g' o' e hb
  cases e
  obtain ⟨bb, oo, h1, h2, h3, h4, h5⟩ := r.at_ 0 t rfl
  cases h1
  subst hb
  rw [show (0 + 0 * 2 : Nat) = 0 from rfl, h.c0] at h3
  cases h3
end Go.Proofs.Ytpabpcojiaklfaa
