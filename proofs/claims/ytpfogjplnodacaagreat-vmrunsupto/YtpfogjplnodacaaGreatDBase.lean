/-
  Disks: what the calls answer, as plain functions on lists; how slices of sectors and of writes are read. By the verifier.
-/
import Derived.Test.YtpfogjplnodacaaGreatProg
import Derived.WalkKit
import Derived.WalkSpells
import Derived.WalkLawsBesides
import Derived.Deep.QuietTactic
import Derived.BigQuiet
namespace Go.Proofs.YtpfogjplnodacaaGreat
open Go.RowKit
set_option linter.unusedVariables false
theorem hide {p : Prop} (h : p) : Hid p := h
theorem unhide {p : Prop} (h : Hid p) : p := h
theorem ret_int {k : IntKind} {a b : Int} (h : a = b) : Ending.returned (.int k a) = .returned (.int k b) := by rw [h]
theorem ret_bool {a b : Bool} (h : a = b) : Ending.returned (.bool a) = .returned (.bool b) := by rw [h]
def Dk.is32 (s : ByteArray) : Bool := decide (s.size = 32)
def Dk.inn (n : Nat) (i : Int) : Bool := decide (0 ≤ i ∧ i < n)
def Dk.chkW (n : Nat) (x : Int × ByteArray) : Nat := if Dk.inn n x.1 then (if Dk.is32 x.2 then 0 else 1) else 5
def Dk.chkWs (n : Nat) : List (Int × ByteArray) → Nat
 | [] => 0
 | x :: r => if Dk.chkW n x = 0 then Dk.chkWs n r else Dk.chkW n x
def Dk.chk (ks : List ByteArray) (ws : List (Int × ByteArray)) : Nat :=
 if 1 ≤ ks.length ∧ ks.length ≤ 600 then (if ks.all Dk.is32 then (if 600 < ws.length then 2 else Dk.chkWs ks.length ws) else 1) else 3
structure Dk.RK (w : World) (ad : Option Addr) (l : List ByteArray) : Prop where
 at_ : ∀ i s, l[i]? = some s → ∃ b o, ad = some ⟨b, o, none⟩ ∧ b < w.heap.size ∧ w.cell? ⟨b, o + i, none⟩ = some (.string s) ∧ s.size ≤ maxLen
structure Dk.RW (w : World) (ad : Option Addr) (l : List (Int × ByteArray)) : Prop where
 at_ : ∀ i x, l[i]? = some x → ∃ b o, ad = some ⟨b, o, none⟩ ∧ b < w.heap.size ∧ w.cell? ⟨b, o + i * 2, none⟩ = some (.int .i64 x.1) ∧ w.cell? ⟨b, o + i * 2 + 1, none⟩ = some (.string x.2) ∧ x.2.size ≤ maxLen
structure Dk.RB (w : World) (ad : Option Addr) (l : List Bool) : Prop where
 at_ : ∀ i s, l[i]? = some s → ∃ b o, ad = some ⟨b, o, none⟩ ∧ b < w.heap.size ∧ w.cell? ⟨b, o + i, none⟩ = some (.bool s)
theorem Dk.RK.later {w w' : World} {ad : Option Addr} {l : List ByteArray} (h : Dk.RK w ad l) {B : Nat} (hb : Below B w w') (hB : w.heap.size ≤ B) : Dk.RK w' ad l :=
 ⟨fun i t hi => by
  obtain ⟨b, o, h1, h2, h3, h4⟩ := h.at_ i t hi
  have hc : ∀ j, w'.cell? ⟨b, j, none⟩ = w.cell? ⟨b, j, none⟩ := fun j => hb.cell (p := ⟨b, j, none⟩) (by show b < B; omega)
  exact ⟨b, o, h1, by have := hb.size; omega, by rw [hc]; exact h3, h4⟩⟩
theorem Dk.RW.later {w w' : World} {ad : Option Addr} {l : List (Int × ByteArray)} (h : Dk.RW w ad l) {B : Nat} (hb : Below B w w') (hB : w.heap.size ≤ B) : Dk.RW w' ad l :=
 ⟨fun i t hi => by
  obtain ⟨b, o, h1, h2, h3, h4, h5⟩ := h.at_ i t hi
  have hc : ∀ j, w'.cell? ⟨b, j, none⟩ = w.cell? ⟨b, j, none⟩ := fun j => hb.cell (p := ⟨b, j, none⟩) (by show b < B; omega)
  exact ⟨b, o, h1, by have := hb.size; omega, by rw [hc]; exact h3, by rw [hc]; exact h4, h5⟩⟩
theorem Dk.RB.later {w w' : World} {ad : Option Addr} {l : List Bool} (h : Dk.RB w ad l) {B : Nat} (hb : Below B w w') (hB : w.heap.size ≤ B) : Dk.RB w' ad l :=
 ⟨fun i t hi => by
  obtain ⟨b, o, h1, h2, h3⟩ := h.at_ i t hi
  have hc : ∀ j, w'.cell? ⟨b, j, none⟩ = w.cell? ⟨b, j, none⟩ := fun j => hb.cell (p := ⟨b, j, none⟩) (by show b < B; omega)
  exact ⟨b, o, h1, by have := hb.size; omega, by rw [hc]; exact h3⟩⟩
end Go.Proofs.YtpfogjplnodacaaGreat
