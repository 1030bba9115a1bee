/-
  TSa, TSb, TSh, TSc. By the verifier.
-/
import Derived.Test.YtfccpddehpgfoaaGreatDoorXI
import Derived.Deep.RegionHeld3
import Derived.Test.YtfccpddehpgfoaaGreatDoorUG
import Derived.Deep.CutRange
set_option maxRecDepth 100000
set_option maxHeartbeats 3200000
namespace Go.Proofs.YtfccpddehpgfoaaGreatDoor
open Go.RowKit
set_option linter.unusedVariables false
def Tk.sameL {α β : Type} (f : α → β → Bool) : List α → List β → Bool
 | [], [] => true
 | a :: r, b :: q => f a b && Tk.sameL f r q
 | _, _ => false
theorem Tk.sameL_len {α β : Type} (f : α → β → Bool) : ∀ (l : List α) (m : List β), l.length ≠ m.length → Tk.sameL f l m = false
 | [], [], h => absurd rfl h
 | a :: r, [], _ => rfl
 | [], b :: q, _ => rfl
 | a :: r, b :: q, h => by
  show (f a b && Tk.sameL f r q) = false
  rw [Tk.sameL_len f r q (fun e => h (by simp [e]))]
  simp
theorem Tk.sameL_all {α β : Type} (f : α → β → Bool) : ∀ (l : List α) (m : List β), l.length = m.length → (∀ (i : Nat) (a : α) (b : β), l[i]? = some a → m[i]? = some b → f a b = true) → Tk.sameL f l m = true
 | [], [], _, _ => rfl
 | a :: r, [], h, _ => by cases h
 | [], b :: q, h, _ => by cases h
 | a :: r, b :: q, h, hall => by
  show (f a b && Tk.sameL f r q) = true
  rw [hall 0 a b rfl rfl, Tk.sameL_all f r q (by simpa using h) (fun i x y h1 h2 => hall (i + 1) x y (by simpa using h1) (by simpa using h2))]
  rfl
theorem Tk.sameL_no {α β : Type} (f : α → β → Bool) : ∀ (l : List α) (m : List β) (i : Nat) (a : α) (b : β), l[i]? = some a → m[i]? = some b → f a b = false → Tk.sameL f l m = false
 | [], _, i, a, b, h, _, _ => by simp at h
 | _ :: _, [], i, a, b, _, h, _ => by simp at h
 | x :: r, y :: q, 0, a, b, h1, h2, h3 => by
  cases h1
  cases h2
  show (f x y && _) = false
  rw [h3]
  rfl
 | x :: r, y :: q, i + 1, a, b, h1, h2, h3 => by
  show (f x y && Tk.sameL f r q) = false
  rw [Tk.sameL_no f r q i a b (by simpa using h1) (by simpa using h2) h3]
  simp
def Tk.sameE : (n m : Nat) → Tk.ET n → Tk.ET m → Bool
 | n + 1, m + 1, x, y => (x.1.1 == y.1.1) && (x.1.2.2.1 == y.1.2.2.1) && (x.1.2.2.2.toList == y.1.2.2.2.toList) && Tk.sameL (Tk.sameE n m) x.2 y.2
 | 0, _, _, _ => false
 | _ + 1, 0, _, _ => false
end Go.Proofs.YtfccpddehpgfoaaGreatDoor
namespace Go.Proofs.YtfccpddehpgfoaaGreatDoor
open Go.RowKit
set_option linter.unusedVariables false
end Go.Proofs.YtfccpddehpgfoaaGreatDoor
namespace Go.Proofs.YtfccpddehpgfoaaGreatDoor
open Go.RowKit
set_option linter.unusedVariables false
section
variable {P : Program} {ty : TypeId} {cs z : Array Value} {d : TypeDesc} {size : Nat} {o : Oper} {a : Act} {W : World} {K : Act → World → Prop} {Q : Exit → Act → World → Prop} {y : Array Bool}
theorem Tk.BV.row {b : Nat} {t : TypeId} (h : W.heap[b]? = some (.cells cs t (0, 0))) : Tk.BV W b cs := fun j v hj => (cell_of_row W b j cs t (0, 0) h).trans hj
end
end Go.Proofs.YtfccpddehpgfoaaGreatDoor
namespace Go.Proofs.YtfccpddehpgfoaaGreatDoor
open Go.RowKit
set_option linter.unusedVariables false
def Tk.sameC {m m' : Nat} : (n n' : Nat) → Tk.CT m n → Tk.CT m' n' → Bool
 | n + 1, n' + 1, x, y => (x.1.1 == y.1.1) && (x.1.2.2.1.toList == y.1.2.2.1.toList) && (x.1.2.2.2.toList == y.1.2.2.2.toList) && Tk.sameE m m' x.2.1.1 y.2.1.1 && Tk.sameE m m' x.2.1.2.1 y.2.1.2.1 && Tk.sameL (Tk.sameE m m') x.2.1.2.2 y.2.1.2.2 && Tk.sameL (Tk.sameC n n') x.2.2.1 y.2.2.1 && Tk.sameL (Tk.sameC n n') x.2.2.2 y.2.2.2
 | 0, _, _, _ => false
 | _ + 1, 0, _, _ => false
end Go.Proofs.YtfccpddehpgfoaaGreatDoor
