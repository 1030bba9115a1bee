/-
  TShelfA, TPn, TPi, TPo. By the verifier.
-/
import Derived.Shelf.Strconv.Atoi
import Derived.Ground.NamesProg
import Derived.Test.YtfccpddehpgfoaaGreatDoorProg
import Derived.Test.YtfccpddehpgfoaaGreatDoorUE
set_option maxRecDepth 100000
set_option maxHeartbeats 3200000
namespace Go.Proofs
open Go.Shelf
end Go.Proofs
namespace Go.Proofs.YtfccpddehpgfoaaGreatDoor
open Go.RowKit
set_option linter.unusedVariables false
section
variable (l : List Tp.T) (ta : Option Addr) (c bp : Nat) (e : Int)
end
end Go.Proofs.YtfccpddehpgfoaaGreatDoor
namespace Go.Proofs.YtfccpddehpgfoaaGreatDoor
open Go.RowKit
set_option linter.unusedVariables false
structure Tp.X5 (W : World) (b : Nat) (E : Tk.E) : Prop where
 c0 : W.cell? ⟨b, 0, none⟩ = some (.int .i64 E.k)
 c1 : W.cell? ⟨b, 1, none⟩ = some (.int .i64 E.a)
 c2 : W.cell? ⟨b, 2, none⟩ = some (.int .i64 E.n)
 c3 : W.cell? ⟨b, 3, none⟩ = some (.string E.nm)
 c4 : W.cell? ⟨b, 4, none⟩ = some (.slice E.args.ad E.args.len E.args.cap)
 f : ∀ j, W.frozen? ⟨b, j, none⟩ = false
def Tk.E.zero : Tk.E := ⟨0, 0, 0, ⟨#[]⟩, ⟨none, 0, 0⟩⟩
section
variable {W W' : World} {b : Nat} {E F : Tk.E}
theorem Tp.X5.lt (h : Tp.X5 W b E) : b < W.heap.size := World.block_lt_of_cell? W _ h.c0
theorem Tp.X5.kept (h : Tp.X5 W b E) (hb : W'.heap[b]? = W.heap[b]?) : Tp.X5 W' b E := by
 have hc : ∀ j, W'.cell? ⟨b, j, none⟩ = W.cell? ⟨b, j, none⟩ := fun j => World.cell?_of_block (a := ⟨b, j, none⟩) hb
 exact ⟨(hc 0).trans h.c0, (hc 1).trans h.c1, (hc 2).trans h.c2, (hc 3).trans h.c3, (hc 4).trans h.c4, fun j => (World.frozen?_of_block (a := ⟨b, j, none⟩) hb).trans (h.f j)⟩
theorem Tp.X5.below (h : Tp.X5 W b E) (hb : Below W.heap.size W W') : Tp.X5 W' b E := h.kept (hb.block b h.lt)
theorem Tp.X5.tu {D : Nat → Prop} (h : Tp.X5 W b E) (hb : Tp.Tu D W.heap.size W W') (hD : ¬ D b) : Tp.X5 W' b E := h.kept (hb.block b h.lt hD)
theorem Tp.X5.new (W : World) (E : Tk.E) : Tp.X5 (W.alloc (Obj.cells #[.int .i64 E.k, .int .i64 E.a, .int .i64 E.n, .string E.nm, .slice E.args.ad E.args.len E.args.cap] 52)) W.heap.size E :=
 ⟨by go_simp, by go_simp, by go_simp, by go_simp, by go_simp, fun j => by go_simp⟩
theorem Tp.X5.lies (h : Tp.X5 W b E) : Tk.ELies W b 0 E := ⟨h.c0, h.c1, h.c2, h.c3, h.c4⟩
theorem Tp.X5.put (h : Tp.X5 W b E) (F : Tk.E) :
  let S := ((((W.setCell ⟨b, 0, none⟩ (.int .i64 F.k)).setCell ⟨b, 1, none⟩ (.int .i64 F.a)).setCell ⟨b, 2, none⟩ (.int .i64 F.n)).setCell ⟨b, 3, none⟩ (.string F.nm)).setCell ⟨b, 4, none⟩ (.slice F.args.ad F.args.len F.args.cap)
  Tp.X5 S b F ∧ S.heap.size = W.heap.size ∧ (∀ q, q ≠ b → S.heap[q]? = W.heap[q]?) ∧ ∀ (D : Nat → Prop) (n : Nat), n ≤ b → Tp.Tu D n W S := by
 obtain ⟨c0, c1, c2, c3, c4, f⟩ := h
 have ne : ∀ (W : World) (i j : Nat) (v : Value), i ≠ j → (W.setCell ⟨b, j, none⟩ v).cell? ⟨b, i, none⟩ = W.cell? ⟨b, i, none⟩ := fun W i j v hij => Tp.set_ne hij
 refine ⟨⟨?_, ?_, ?_, ?_, ?_, fun j => ?_⟩, by simp [World.setCell], fun q hq => ?_, fun D n hn => ?_⟩
 · rw [ne _ 0 4 _ (by decide), ne _ 0 3 _ (by decide), ne _ 0 2 _ (by decide), ne _ 0 1 _ (by decide)]
   exact World.cell?_setCell_same _ _ _ c0
 · rw [ne _ 1 4 _ (by decide), ne _ 1 3 _ (by decide), ne _ 1 2 _ (by decide)]
   exact World.cell?_setCell_same _ _ _ (by rw [ne _ 1 0 _ (by decide)]; exact c1)
 · rw [ne _ 2 4 _ (by decide), ne _ 2 3 _ (by decide)]
   exact World.cell?_setCell_same _ _ _ (by rw [ne _ 2 1 _ (by decide), ne _ 2 0 _ (by decide)]; exact c2)
 · rw [ne _ 3 4 _ (by decide)]
   exact World.cell?_setCell_same _ _ _ (by rw [ne _ 3 2 _ (by decide), ne _ 3 1 _ (by decide), ne _ 3 0 _ (by decide)]; exact c3)
 · exact World.cell?_setCell_same _ _ _ (by rw [ne _ 4 3 _ (by decide), ne _ 4 2 _ (by decide), ne _ 4 1 _ (by decide), ne _ 4 0 _ (by decide)]; exact c4)
 · simp only [World.frozen?_setCell]; exact f j
 · exact ((((Below.heap_setCell _ _ _ _ hq).trans (Below.heap_setCell _ _ _ _ hq)).trans (Below.heap_setCell _ _ _ _ hq)).trans (Below.heap_setCell _ _ _ _ hq)).trans (Below.heap_setCell _ _ _ _ hq)
 · exact (((((Tp.Tu.refl D n W).set (b := b) (o := 0) _ (by omega)).set (b := b) (o := 1) _ (by omega)).set (b := b) (o := 2) _ (by omega)).set (b := b) (o := 3) _ (by omega)).set (b := b) (o := 4) _ (by omega)
theorem Tp.X5.set0 (h : Tp.X5 W b E) (z : Int) : Tp.X5 (W.setCell ⟨b, 0, none⟩ (.int .i64 z)) b ⟨z, E.a, E.n, E.nm, E.args⟩ :=
 ⟨World.cell?_setCell_same _ _ _ h.c0, (Tp.set_ne (by decide)).trans h.c1, (Tp.set_ne (by decide)).trans h.c2, (Tp.set_ne (by decide)).trans h.c3, (Tp.set_ne (by decide)).trans h.c4, fun j => by rw [World.frozen?_setCell]; exact h.f j⟩
theorem Tp.X5.set3 (h : Tp.X5 W b E) (z : ByteArray) : Tp.X5 (W.setCell ⟨b, 3, none⟩ (.string z)) b ⟨E.k, E.a, E.n, z, E.args⟩ :=
 ⟨(Tp.set_ne (by decide)).trans h.c0, (Tp.set_ne (by decide)).trans h.c1, (Tp.set_ne (by decide)).trans h.c2, World.cell?_setCell_same _ _ _ h.c3, (Tp.set_ne (by decide)).trans h.c4, fun j => by rw [World.frozen?_setCell]; exact h.f j⟩
end
def Tp.gX (B bp d : Nat) (x : Tk.ET d) (r : Ending) (W : World) : Prop := ∃ E : Tk.E, r = .returned (.agg #[.int .i64 E.k, .int .i64 E.a, .int .i64 E.n, .string E.nm, .slice E.args.ad E.args.len E.args.cap]) ∧ Tp.Ow B bp W (fun W => Tk.RE W d E x)
section
variable {B bp g d : Nat} {W : World}
theorem Tk.ELies.kept {W W' : World} {g o : Nat} {E : Tk.E} (h : Tk.ELies W g o E) (hb : W'.heap[g]? = W.heap[g]?) : Tk.ELies W' g o E := by
 have hc : ∀ j, W'.cell? ⟨g, j, none⟩ = W.cell? ⟨g, j, none⟩ := fun j => World.cell?_of_block (a := ⟨g, j, none⟩) hb
 exact ⟨(hc _).trans h.c0, (hc _).trans h.c1, (hc _).trans h.c2, (hc _).trans h.c3, (hc _).trans h.c4⟩
theorem Tk.ELies.lt {W : World} {g o : Nat} {E : Tk.E} (h : Tk.ELies W g o E) : g < W.heap.size := World.block_lt_of_cell? W _ h.c0
theorem Tp.Ow.one {E : Tk.E} {x : Tk.ET d} (hL : Tk.ELies W g 0 E) (hg : B ≤ g) (hb : bp < B) (h : Tp.Ow B bp W (fun W => Tk.RE W d E x)) : Tp.Ow B bp W (fun W => Tk.RS W 5 (Tk.ELies W) (Tk.RE W d) ⟨some ⟨g, 0, none⟩, 1, 1⟩ [x]) :=
 fun W' h1 h2 => ⟨rfl, by simp, fun i y hy => by
  match i, hy with
  | 0, hy =>
   cases hy
   exact ⟨g, 0, E, rfl, Nat.lt_of_lt_of_le hL.lt h1, hL.kept (h2 g hg (by omega) hL.lt), h W' h1 h2⟩
  | i + 1, hy => simp at hy⟩
theorem Tp.Ow.two {E F : Tk.E} {x y : Tk.ET d} (hL : Tk.ELies W g 0 E) (hF : Tk.ELies W g 5 F) (hg : B ≤ g) (hb : bp < B) (h : Tp.Ow B bp W (fun W => Tk.RE W d E x)) (h' : Tp.Ow B bp W (fun W => Tk.RE W d F y)) :
  Tp.Ow B bp W (fun W => Tk.RS W 5 (Tk.ELies W) (Tk.RE W d) ⟨some ⟨g, 0, none⟩, 2, 2⟩ [x, y]) :=
 fun W' h1 h2 => ⟨rfl, by simp, fun i z hz => by
  match i, hz with
  | 0, hz =>
   cases hz
   exact ⟨g, 0, E, rfl, Nat.lt_of_lt_of_le hL.lt h1, hL.kept (h2 g hg (by omega) hL.lt), h W' h1 h2⟩
  | 1, hz =>
   cases hz
   exact ⟨g, 0, F, rfl, Nat.lt_of_lt_of_le hL.lt h1, hF.kept (h2 g hg (by omega) hL.lt), h' W' h1 h2⟩
  | i + 2, hz => simp at hz⟩
end
section
variable (l : List Tp.T) (ta : Option Addr) (c bp : Nat) (e : Int)
end
end Go.Proofs.YtfccpddehpgfoaaGreatDoor
namespace Go.Proofs.YtfccpddehpgfoaaGreatDoor
open Go.RowKit
set_option linter.unusedVariables false
section
variable (l : List Tp.T) (ta : Option Addr) (c bp : Nat) (e : Int)
end
end Go.Proofs.YtfccpddehpgfoaaGreatDoor
