/-
  Disks: what the calls answer, as plain functions on lists; how slices of sectors and of writes are read. By the verifier.
-/
import Derived.Test.YtfccpddehpgfoaaGreatDoorProg
import Derived.WalkKit
import Derived.WalkSpells
import Derived.WalkLawsBesides
import Derived.Deep.QuietTactic
import Derived.BigQuiet
namespace Go.Proofs.YtfccpddehpgfoaaGreatDoor
open Go.RowKit
set_option linter.unusedVariables false
theorem hide {p : Prop} (h : p) : Hid p := h
theorem unhide {p : Prop} (h : Hid p) : p := h
theorem below_two {w w1 : World} {o : Obj} (hb : Below (w.alloc o).heap.size (w.alloc o) w1) : Below w.heap.size w w1 :=
 ((Below.refl w.heap.size w).alloc (Nat.le_refl _) o).trans (hb.mono (by simp))
theorem bcell {W w1 : World} (hb : Below W.heap.size W w1) : (∀ b o, b < W.heap.size → w1.cell? ⟨b, o, none⟩ = W.cell? ⟨b, o, none⟩) ∧ (∀ b o, b < W.heap.size → w1.frozen? ⟨b, o, none⟩ = W.frozen? ⟨b, o, none⟩) :=
 ⟨fun b o h => hb.cell (p := ⟨b, o, none⟩) h, fun b o h => hb.frozen (p := ⟨b, o, none⟩) h⟩
theorem ret_int {k : IntKind} {a b : Int} (h : a = b) : Ending.returned (.int k a) = .returned (.int k b) := by rw [h]
theorem ret_bool {a b : Bool} (h : a = b) : Ending.returned (.bool a) = .returned (.bool b) := by rw [h]
def Dk.is32 (s : ByteArray) : Bool := decide (s.size = 32)
def Dk.inn (n : Nat) (i : Int) : Bool := decide (0 ≤ i ∧ i < n)
def Dk.chkW (n : Nat) (x : Int × ByteArray) : Nat := if Dk.inn n x.1 then (if Dk.is32 x.2 then 0 else 1) else 5
def Dk.chkWs (n : Nat) : List (Int × ByteArray) → Nat
 | [] => 0
 | x :: r => if Dk.chkW n x = 0 then Dk.chkWs n r else Dk.chkW n x
def Dk.chk (ks : List ByteArray) (ws : List (Int × ByteArray)) : Nat :=
 if 1 ≤ ks.length ∧ ks.length ≤ 600 then (if ks.all Dk.is32 then (if 600 < ws.length then 2 else Dk.chkWs ks.length ws) else 1) else 3
def Dk.keptTo (p : Nat → Bool) (ks : List ByteArray) (ws : List (Int × ByteArray)) : Nat → List ByteArray
 | 0 => ks
 | k + 1 => match ws[k]? with
  | some x => if p k then (Dk.keptTo p ks ws k).set x.1.toNat x.2 else Dk.keptTo p ks ws k
  | none => Dk.keptTo p ks ws k
theorem Dk.keptTo_length (p : Nat → Bool) (ks : List ByteArray) (ws : List (Int × ByteArray)) (k : Nat) : (Dk.keptTo p ks ws k).length = ks.length := by
 induction k with
 | zero => rfl
 | succ k ih =>
  unfold Dk.keptTo
  split
  · split
    · rw [List.length_set]; exact ih
    · exact ih
  · exact ih
theorem Dk.keptTo_step (p : Nat → Bool) (ks : List ByteArray) (ws : List (Int × ByteArray)) (k : Nat) (x : Int × ByteArray) (h : ws[k]? = some x) :
  Dk.keptTo p ks ws (k + 1) = if p k then (Dk.keptTo p ks ws k).set x.1.toNat x.2 else Dk.keptTo p ks ws k := by
 show (match ws[k]? with | some x => _ | none => _) = _
 rw [h]
theorem Dk.chkWs_drop (n : Nat) (l : List (Int × ByteArray)) (k : Nat) (x : Int × ByteArray) (h : l[k]? = some x) : Dk.chkWs n (l.drop k) = if Dk.chkW n x = 0 then Dk.chkWs n (l.drop (k + 1)) else Dk.chkW n x := by
 obtain ⟨hk, hx⟩ := List.getElem?_eq_some_iff.1 h
 rw [List.drop_eq_getElem_cons hk, hx]
 rfl
theorem Dk.chkWs_mem (n : Nat) (l : List (Int × ByteArray)) (h : Dk.chkWs n l = 0) : ∀ x ∈ l, 0 ≤ x.1 ∧ x.1 < (n : Int) ∧ x.2.size = 32 := by
 induction l with
 | nil => intro x hx; cases hx
 | cons y r ih =>
  intro x hx
  unfold Dk.chkWs at h
  split at h
  · rename_i h0
    cases hx with
    | head =>
     unfold Dk.chkW at h0
     split at h0
     · rename_i hi
       split at h0
       · rename_i h3
         simp only [Dk.inn, decide_eq_true_eq] at hi
         simp only [Dk.is32, decide_eq_true_eq] at h3
         exact ⟨hi.1, hi.2, h3⟩
       · cases h0
     · cases h0
    | tail _ hx => exact ih h x hx
  · rename_i h0; exact absurd h h0
theorem Dk.chk_ok {ks : List ByteArray} {ws : List (Int × ByteArray)} (h : Dk.chk ks ws = 0) : 1 ≤ ks.length ∧ ks.length ≤ 600 ∧ ks.all Dk.is32 = true ∧ ws.length ≤ 600 ∧ Dk.chkWs ks.length ws = 0 := by
 unfold Dk.chk at h
 split at h
 · rename_i h1
   split at h
   · rename_i h2
     split at h
     · cases h
     · exact ⟨h1.1, h1.2, h2, by omega, h⟩
   · cases h
 · cases h
structure Dk.RK (w : World) (ad : Option Addr) (l : List ByteArray) : Prop where
 at_ : ∀ i s, l[i]? = some s → ∃ b o, ad = some ⟨b, o, none⟩ ∧ b < w.heap.size ∧ w.cell? ⟨b, o + i, none⟩ = some (.string s) ∧ s.size ≤ maxLen
structure Dk.RW (w : World) (ad : Option Addr) (l : List (Int × ByteArray)) : Prop where
 at_ : ∀ i x, l[i]? = some x → ∃ b o, ad = some ⟨b, o, none⟩ ∧ b < w.heap.size ∧ w.cell? ⟨b, o + i * 2, none⟩ = some (.int .i64 x.1) ∧ w.cell? ⟨b, o + i * 2 + 1, none⟩ = some (.string x.2) ∧ x.2.size ≤ maxLen
structure Dk.RB (w : World) (ad : Option Addr) (l : List Bool) : Prop where
 at_ : ∀ i s, l[i]? = some s → ∃ b o, ad = some ⟨b, o, none⟩ ∧ b < w.heap.size ∧ w.cell? ⟨b, o + i, none⟩ = some (.bool s)
theorem Dk.RK.later {w w' : World} {ad : Option Addr} {l : List ByteArray} (h : Dk.RK w ad l) {B : Nat} (hb : Below B w w') (hB : w.heap.size ≤ B) : Dk.RK w' ad l :=
 ⟨fun i t hi => by
  obtain ⟨b, o, h1, h2, h3, h4⟩ := h.at_ i t hi
  have hc : ∀ j, w'.cell? ⟨b, j, none⟩ = w.cell? ⟨b, j, none⟩ := fun j => hb.cell (p := ⟨b, j, none⟩) (by show b < B; omega)
  exact ⟨b, o, h1, by have := hb.size; omega, by rw [hc]; exact h3, h4⟩⟩
theorem Dk.RW.later {w w' : World} {ad : Option Addr} {l : List (Int × ByteArray)} (h : Dk.RW w ad l) {B : Nat} (hb : Below B w w') (hB : w.heap.size ≤ B) : Dk.RW w' ad l :=
 ⟨fun i t hi => by
  obtain ⟨b, o, h1, h2, h3, h4, h5⟩ := h.at_ i t hi
  have hc : ∀ j, w'.cell? ⟨b, j, none⟩ = w.cell? ⟨b, j, none⟩ := fun j => hb.cell (p := ⟨b, j, none⟩) (by show b < B; omega)
  exact ⟨b, o, h1, by have := hb.size; omega, by rw [hc]; exact h3, by rw [hc]; exact h4, h5⟩⟩
theorem Dk.RB.later {w w' : World} {ad : Option Addr} {l : List Bool} (h : Dk.RB w ad l) {B : Nat} (hb : Below B w w') (hB : w.heap.size ≤ B) : Dk.RB w' ad l :=
 ⟨fun i t hi => by
  obtain ⟨b, o, h1, h2, h3⟩ := h.at_ i t hi
  have hc : ∀ j, w'.cell? ⟨b, j, none⟩ = w.cell? ⟨b, j, none⟩ := fun j => hb.cell (p := ⟨b, j, none⟩) (by show b < B; omega)
  exact ⟨b, o, h1, by have := hb.size; omega, by rw [hc]; exact h3⟩⟩
end Go.Proofs.YtfccpddehpgfoaaGreatDoor
