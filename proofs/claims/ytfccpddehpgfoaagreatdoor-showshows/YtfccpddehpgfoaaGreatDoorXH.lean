/-
  TPc, TPv. By the verifier.
-/
import Derived.Test.YtfccpddehpgfoaaGreatDoorTPx
import Derived.Deep.LoopGhost
set_option maxRecDepth 100000
set_option maxHeartbeats 3200000
namespace Go.Proofs.YtfccpddehpgfoaaGreatDoor
open Go.RowKit
set_option linter.unusedVariables false
theorem Tryz.infoTC : (Tryz.prog.info? 56).map (fun i => (i.zero, i.size, i.bytes)) = some (some (.agg #[.int .i64 0, .int .i64 0, .string ⟨#[]⟩, .string ⟨#[]⟩, .int .i64 0, .int .i64 0, .int .i64 0, .string ⟨#[]⟩, .slice none 0 0, .int .i64 0, .int .i64 0, .int .i64 0, .string ⟨#[]⟩, .slice none 0 0, .slice none 0 0, .slice none 0 0, .slice none 0 0]), 17, 248) := by kernel_rfl
theorem Tp.info_of {P : Program} {t : TypeId} {z : Option Value} {s b : Nat} (h : (P.info? t).map (fun i => (i.zero, i.size, i.bytes)) = some (z, s, b)) : ∃ i, P.info? t = some i ∧ i.zero = z ∧ i.size = s ∧ i.bytes = b := by
 cases hi : P.info? t with
 | none => rw [hi] at h; cases h
 | some i => rw [hi] at h; simp at h; exact ⟨i, rfl, h.1, h.2.1, h.2.2⟩
theorem Tk.C.cells_len (E : Tk.C) : E.cells.toList.length = 17 := rfl
def Tp.gC (B bp n : Nat) (x : Tk.CT 61 n) (r : Ending) (W : World) : Prop := ∃ E : Tk.C, r = .returned (.agg #[.int .i64 E.k, .int .i64 E.a, .string E.nm, .string E.ot, .int .i64 E.ix.k, .int .i64 E.ix.a, .int .i64 E.ix.n, .string E.ix.nm, .slice E.ix.args.ad E.ix.args.len E.ix.args.cap, .int .i64 E.ex.k, .int .i64 E.ex.a, .int .i64 E.ex.n, .string E.ex.nm, .slice E.ex.args.ad E.ex.args.len E.ex.args.cap, .slice E.args.ad E.args.len E.args.cap, .slice E.th.ad E.th.len E.th.cap, .slice E.el.ad E.el.len E.el.cap]) ∧ Tp.Ow B bp W (fun W => Tk.RC W 61 n E x)
def Tp.gL (B bp n : Nat) (x : List (Tk.CT 61 n)) (r : Ending) (W : World) : Prop := ∃ s : Tk.Sl, r = .returned (.slice s.ad s.len s.cap) ∧ Tp.Ow B bp W (fun W => Tk.RS W 17 (Tk.LC W) (Tk.RC W 61 n) s x)
section
variable (l : List Tp.T) (ta : Option Addr) (c bp : Nat) (e : Int)
end
end Go.Proofs.YtfccpddehpgfoaaGreatDoor
namespace Go.Proofs.YtfccpddehpgfoaaGreatDoor
open Go.RowKit
set_option linter.unusedVariables false
section
variable {l : List Tp.T} {e : Int} {i j : Nat}
end
theorem Tryz.infoTV : (Tryz.prog.info? 59).map (fun i => (i.zero, i.size, i.bytes)) = some (some (.agg #[.string ⟨#[]⟩, .int .i64 0]), 2, 24) := by kernel_rfl
structure Tp.X2 (W : World) (b : Nat) (nm : ByteArray) (z : Int) : Prop where
 c0 : W.cell? ⟨b, 0, none⟩ = some (.string nm)
 c1 : W.cell? ⟨b, 1, none⟩ = some (.int .i64 z)
 f : ∀ j, W.frozen? ⟨b, j, none⟩ = false
section
variable {W W' : World} {b : Nat} {nm : ByteArray} {z : Int}
theorem Tp.X2.lt (h : Tp.X2 W b nm z) : b < W.heap.size := World.block_lt_of_cell? W _ h.c0
theorem Tp.X2.kept (h : Tp.X2 W b nm z) (hb : W'.heap[b]? = W.heap[b]?) : Tp.X2 W' b nm z := by
 have hc : ∀ j, W'.cell? ⟨b, j, none⟩ = W.cell? ⟨b, j, none⟩ := fun j => World.cell?_of_block (a := ⟨b, j, none⟩) hb
 exact ⟨(hc 0).trans h.c0, (hc 1).trans h.c1, fun j => (World.frozen?_of_block (a := ⟨b, j, none⟩) hb).trans (h.f j)⟩
theorem Tp.X2.tu {D : Nat → Prop} (h : Tp.X2 W b nm z) (hb : Tp.Tu D W.heap.size W W') (hD : ¬ D b) : Tp.X2 W' b nm z := h.kept (hb.block b h.lt hD)
theorem Tp.X2.set0 (h : Tp.X2 W b nm z) (t : ByteArray) : Tp.X2 (W.setCell ⟨b, 0, none⟩ (.string t)) b t z :=
 ⟨World.cell?_setCell_same _ _ _ h.c0, (Tp.set_ne (by decide)).trans h.c1, fun j => by rw [World.frozen?_setCell]; exact h.f j⟩
end
theorem Tp.Rw.keptV {α β : Type} {B d : Nat} {W W1 : World} {ty : TypeId} {wide : Nat} {cl : α → List Value} {S : α → β → Prop} {v : Value} {es : List α} {xs : List β} (h : Tp.Rw B d W ty wide cl (fun _ => S) v es xs) (hz : W.heap.size ≤ W1.heap.size) (hk : ∀ q, v.ownBlock = some q → W1.heap[q]? = W.heap[q]?) : Tp.Rw B d W1 ty wide cl (fun _ => S) v es xs :=
 ⟨Tp.ow_kept h.row hk, h.len, fun i E x h1 h2 _ _ _ => (h.own i E x h1 h2).now⟩
def Tp.clV (v : ByteArray × Int) : List Value := [.string v.1, .int .i64 v.2]
theorem Tp.clV_len (v : ByteArray × Int) : (Tp.clV v).length = 2 := rfl
theorem Tp.clV_lies (W : World) (g o : Nat) (E : ByteArray × Int) (h : ∀ (j : Nat) (u : Value), (Tp.clV E)[j]? = some u → W.cell? ⟨g, o + j, none⟩ = some u) : Tk.LV W g o E := ⟨h 0 _ rfl, h 1 _ rfl⟩
def Tp.gV (B bp : Nat) (x : List (ByteArray × Int)) (r : Ending) (W : World) : Prop := ∃ s : Tk.Sl, r = .returned (.slice s.ad s.len s.cap) ∧ Tp.Ow B bp W (fun W => Tk.RS W 2 (Tk.LV W) Tk.RV s x)
section
variable (l : List Tp.T) (ta : Option Addr) (c bp : Nat) (e : Int)
end
end Go.Proofs.YtfccpddehpgfoaaGreatDoor
