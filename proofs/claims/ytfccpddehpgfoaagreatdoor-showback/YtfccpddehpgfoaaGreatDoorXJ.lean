/- By the verifier. -/
import Derived.Test.YtfccpddehpgfoaaGreatDoorXI
import Derived.Deep.CutRange
set_option maxRecDepth 100000
set_option maxHeartbeats 3200000
namespace Go.Proofs.YtfccpddehpgfoaaGreatDoor
open Go.RowKit
set_option linter.unusedVariables false
def Zaa {α β : Type} (f : α → β → Bool) : List α → List β → Bool
 | [], [] => true
 | a :: r, b :: q => f a b && Zaa f r q
 | _, _ => false
theorem Zbx {α β : Type} (f : α → β → Bool) : ∀ (l : List α) (m : List β), l.length ≠ m.length → Zaa f l m = false
 | [], [], h => absurd rfl h
 | a :: r, [], _ => rfl
 | [], b :: q, _ => rfl
 | a :: r, b :: q, h => by
  show (f a b && Zaa f r q) = false
  rw [Zbx f r q (fun e => h (by simp [e]))]
  simp
theorem ZbH {α β : Type} (f : α → β → Bool) : ∀ (l : List α) (m : List β), l.length = m.length → (∀ (i : Nat) (a : α) (b : β), l[i]? = some a → m[i]? = some b → f a b = true) → Zaa f l m = true
 | [], [], _, _ => rfl
 | a :: r, [], h, _ => by cases h
 | [], b :: q, h, _ => by cases h
 | a :: r, b :: q, h, hall => by
  show (f a b && Zaa f r q) = true
  rw [hall 0 a b rfl rfl, ZbH f r q (by simpa using h) (fun i x y h1 h2 => hall (i + 1) x y (by simpa using h1) (by simpa using h2))]
  rfl
theorem Zca {α β : Type} (f : α → β → Bool) : ∀ (l : List α) (m : List β) (i : Nat) (a : α) (b : β), l[i]? = some a → m[i]? = some b → f a b = false → Zaa f l m = false
 | [], _, i, a, b, h, _, _ => by simp at h
 | _ :: _, [], i, a, b, _, h, _ => by simp at h
 | x :: r, y :: q, 0, a, b, h1, h2, h3 => by
  cases h1
  cases h2
  show (f x y && _) = false
  rw [h3]
  rfl
 | x :: r, y :: q, i + 1, a, b, h1, h2, h3 => by
  show (f x y && Zaa f r q) = false
  rw [Zca f r q i a b (by simpa using h1) (by simpa using h2) h3]
  simp
def Zai : (n m : Nat) → Zat n → Zat m → Bool
 | n + 1, m + 1, x, y => (x.1.1 == y.1.1) && (x.1.2.2.1 == y.1.2.2.1) && (x.1.2.2.2.toList == y.1.2.2.2.toList) && Zaa (Zai n m) x.2 y.2
 | 0, _, _, _ => false
 | _ + 1, 0, _, _ => false
section
variable {P : Program} {ty : TypeId} {cs z : Array Value} {d : TypeDesc} {size : Nat} {o : Oper} {a : Act} {W : World} {K : Act → World → Prop} {Q : Exit → Act → World → Prop} {y : Array Bool}
end
def Zas {m m' : Nat} : (n n' : Nat) → Zap m n → Zap m' n' → Bool
 | n + 1, n' + 1, x, y => (x.1.1 == y.1.1) && (x.1.2.2.1.toList == y.1.2.2.1.toList) && (x.1.2.2.2.toList == y.1.2.2.2.toList) && Zai m m' x.2.1.1 y.2.1.1 && Zai m m' x.2.1.2.1 y.2.1.2.1 && Zaa (Zai m m') x.2.1.2.2 y.2.1.2.2 && Zaa (Zas n n') x.2.2.1 y.2.2.1 && Zaa (Zas n n') x.2.2.2 y.2.2.2
 | 0, _, _, _ => false
 | _ + 1, 0, _, _ => false
end Go.Proofs.YtfccpddehpgfoaaGreatDoor
