/-
  Contracts of tree's parser: expr. By the verifier.
-/
import Derived.Test.YtfccpddehpgfoaaGreatDoorUF
set_option maxRecDepth 100000
set_option maxHeartbeats 1600000
namespace Go.Proofs.YtfccpddehpgfoaaGreatDoor
open Go.RowKit
set_option linter.unusedVariables false
theorem Tp.rs_nil {α β : Type} (W : World) (wide : Nat) (lies : Nat → Nat → α → Prop) (reads : α → β → Prop) : Tk.RS W wide lies reads ⟨none, 0, 0⟩ ([] : List β) :=
 ⟨rfl, Nat.zero_le _, fun i y hy => by simp at hy⟩
theorem Tp.leafE (B bp d : Nat) (W : World) (k a n : Int) (nm : ByteArray) (h : nm.size ≤ maxLen) : Tp.Ow B bp W (fun W => Tk.RE W (d + 1) ⟨k, a, n, nm, ⟨none, 0, 0⟩⟩ ((k, a, n, nm), [])) :=
 fun W' _ _ => ⟨⟨rfl, rfl, rfl, rfl, h⟩, Tp.rs_nil _ _ _ _⟩
theorem Tp.nodeE {B bp d : Nat} {W : World} {s : Tk.Sl} {xs : List (Tk.ET d)} (h : Tp.Ow B bp W (fun W => Tk.RS W 5 (Tk.ELies W) (Tk.RE W d) s xs)) (k a n : Int) (nm : ByteArray) (hn : nm.size ≤ maxLen) : Tp.Ow B bp W (fun W => Tk.RE W (d + 1) ⟨k, a, n, nm, s⟩ ((k, a, n, nm), xs)) :=
 fun W' h1 h2 => ⟨⟨rfl, rfl, rfl, rfl, hn⟩, h W' h1 h2⟩
section
variable (l : List Tp.T) (ta : Option Addr) (c bp : Nat) (e : Int)
end
end Go.Proofs.YtfccpddehpgfoaaGreatDoor
