/-
  Each reader of a tree goes on. By the verifier.
-/
import Derived.Test.YtfccpddehpgfoaaGreatDoorTPv
namespace Go.Proofs.YtfccpddehpgfoaaGreatDoor
open Go.RowKit
set_option linter.unusedVariables false
section
variable {l : List Tp.T} {e : Int}
theorem Tp.index_go {α : Type} {rec : Nat → Nat → Except Nat (α × Nat)} (h : ∀ b i x j, rec b i = .ok (x, j) → i < j) {b i j : Nat} {x : α} (hx : Tp.index l rec b i = .ok (x, j)) : i < j := by
 unfold Tp.index at hx
 cases h1 : Tp.opens l ⟨#[91]⟩ b i with
 | error j1 => rw [h1] at hx; cases hx
 | ok i1 =>
  simp only [h1] at hx
  cases h2 : rec (b + 1) i1 with
  | error j1 => rw [h2] at hx; cases hx
  | ok p =>
   obtain ⟨y, j1⟩ := p
   simp only [h2] at hx
   cases h3 : Tp.want l ⟨#[93]⟩ j1 with
   | error j2 => rw [h3] at hx; cases hx
   | ok j2 =>
    simp only [h3] at hx
    cases hx
    have a1 := Tp.opens_ok h1
    have a2 := h _ _ _ _ h2
    have a3 := Tp.want_ok h3
    omega
theorem Tp.oper_go {α : Type} {rec : Nat → Nat → Except Nat (α × Nat)} (h : ∀ b i x j, rec b i = .ok (x, j) → i < j) {b i j : Nat} {x : Nat × α × α} (hx : Tp.oper l rec b i = .ok (x, j)) : i < j := by
 unfold Tp.oper at hx
 cases h1 : Tp.opens l ⟨#[40]⟩ b i with
 | error j1 => rw [h1] at hx; cases hx
 | ok i1 =>
  simp only [h1] at hx
  cases h2 : rec (b + 1) i1 with
  | error j1 => rw [h2] at hx; cases hx
  | ok p =>
   obtain ⟨y, j1⟩ := p
   simp only [h2] at hx
   split at hx
   · cases hx
   · cases h3 : rec (b + 1) (j1 + 1) with
     | error j2 => rw [h3] at hx; cases hx
     | ok p =>
      obtain ⟨z, j2⟩ := p
      simp only [h3] at hx
      cases h4 : Tp.want l ⟨#[41]⟩ j2 with
      | error j3 => rw [h4] at hx; cases hx
      | ok j3 =>
       simp only [h4] at hx
       cases hx
       have a1 := Tp.opens_ok h1
       have a2 := h _ _ _ _ h2
       have a3 := h _ _ _ _ h3
       have a4 := Tp.want_ok h4
       omega
theorem Tp.expr_go : ∀ (d : Nat) {b i j : Nat} {x : Tk.ET d}, Tp.expr l e d b i = .ok (x, j) → i < j
 | 0, _, _, _, _, h => by cases h
 | d + 1, b, i, j, x, h => by
  have ih : ∀ b i (x : Tk.ET d) j, Tp.expr l e d b i = .ok (x, j) → i < j := fun b i x j h => Tp.expr_go d h
  unfold Tp.expr Tp.exprF at h
  split at h
  · cases h1 : Tp.oper l (Tp.expr l e d) b i with
    | error j1 => rw [h1] at h; cases h
    | ok p =>
     obtain ⟨⟨k, y, z⟩, j1⟩ := p
     simp only [h1] at h
     cases h
     exact Tp.oper_go ih h1
  · split at h
    · cases h1 : Tp.count l (i + 1) with
      | error j1 => rw [h1] at h; cases h
      | ok p =>
       obtain ⟨y, j1⟩ := p
       simp only [h1] at h
       cases h
       have := Tp.count_ok h1
       omega
    · split at h
      · split at h
        · cases h1 : Tp.index l (Tp.expr l e d) b (i + 1) with
          | error j1 => rw [h1] at h; cases h
          | ok p =>
           obtain ⟨y, j1⟩ := p
           simp only [h1] at h
           cases h
           have := Tp.index_go ih h1
           omega
        · cases h; omega
      · cases h1 : Tp.number l i with
        | error j1 => rw [h1] at h; cases h
        | ok p =>
         obtain ⟨y, j1⟩ := p
         simp only [h1] at h
         cases h
         have := Tp.number_ok h1
         omega
theorem Tp.more_go {α : Type} {thing : Nat → Except Nat (α × Nat)} (h : ∀ i x j, thing i = .ok (x, j) → i < j) : ∀ (f : Nat) {i j : Nat} {acc xs : List α}, Tp.more l thing f i acc = .ok (xs, j) → i ≤ j
 | 0, _, _, _, _, hx => by cases hx
 | f + 1, i, j, acc, xs, hx => by
  unfold Tp.more at hx
  split at hx
  · cases h1 : thing (i + 1) with
    | error j1 => rw [h1] at hx; cases hx
    | ok p =>
     obtain ⟨y, j1⟩ := p
     simp only [h1] at hx
     have a1 := h _ _ _ h1
     have a2 := Tp.more_go h f hx
     omega
  · cases hx; exact Nat.le_refl _
theorem Tp.items_go {α : Type} {thing : Nat → Except Nat (α × Nat)} (h : ∀ i x j, thing i = .ok (x, j) → i < j) {i j : Nat} {xs : List α} (hx : Tp.items l thing i = .ok (xs, j)) : i ≤ j := by
 unfold Tp.items at hx
 split at hx
 · cases hx; exact Nat.le_refl _
 · cases h1 : thing i with
   | error j1 => rw [h1] at hx; cases hx
   | ok p =>
    obtain ⟨y, j1⟩ := p
    simp only [h1] at hx
    have a1 := h _ _ _ h1
    have a2 := Tp.more_go h _ hx
    omega
theorem Tp.list_go {α : Type} {thing : Nat → Except Nat (α × Nat)} (h : ∀ i x j, thing i = .ok (x, j) → i < j) {i j : Nat} {xs : List α} (hx : Tp.list l thing i = .ok (xs, j)) : i < j := by
 unfold Tp.list at hx
 cases h1 : Tp.want l ⟨#[40]⟩ i with
 | error j1 => rw [h1] at hx; cases hx
 | ok i1 =>
  simp only [h1] at hx
  cases h2 : Tp.items l thing i1 with
  | error j1 => rw [h2] at hx; cases hx
  | ok p =>
   obtain ⟨y, j1⟩ := p
   simp only [h2] at hx
   cases h3 : Tp.want l ⟨#[41]⟩ j1 with
   | error j2 => rw [h3] at hx; cases hx
   | ok j2 =>
    simp only [h3] at hx
    cases hx
    have a1 := Tp.want_ok h1
    have a2 := Tp.items_go h h2
    have a3 := Tp.want_ok h3
    omega
theorem Tp.vars_go : ∀ (f : Nat) {i j : Nat} {acc xs : List (ByteArray × Int)}, Tp.vars l f i acc = .ok (xs, j) → i ≤ j
 | 0, _, _, _, _, h => by cases h
 | f + 1, i, j, acc, xs, h => by
  unfold Tp.vars at h
  split at h
  · cases h1 : Tp.name l (i + 1) with
    | error j1 => rw [h1] at h; cases h
    | ok p =>
     obtain ⟨y, j1⟩ := p
     simp only [h1] at h
     cases h2 : Tp.want l ⟨#[59]⟩ j1 with
     | error j2 => rw [h2] at h; cases h
     | ok j2 =>
      simp only [h2] at h
      have a1 := Tp.name_ok h1
      have a2 := Tp.want_ok h2
      have a3 := Tp.vars_go f h
      omega
  · split at h
    · cases h1 : Tp.name l (i + 1) with
      | error j1 => rw [h1] at h; cases h
      | ok p =>
       obtain ⟨y, j1⟩ := p
       simp only [h1] at h
       cases h2 : Tp.count l j1 with
       | error j2 => rw [h2] at h; cases h
       | ok q =>
        obtain ⟨z, j2⟩ := q
        simp only [h2] at h
        cases h3 : Tp.want l ⟨#[59]⟩ j2 with
        | error j3 => rw [h3] at h; cases h
        | ok j3 =>
         simp only [h3] at h
         have a1 := Tp.name_ok h1
         have a2 := Tp.count_ok h2
         have a3 := Tp.want_ok h3
         have a4 := Tp.vars_go f h
         omega
    · cases h; exact Nat.le_refl _
theorem Tp.cmds_go {α : Type} {rec : Nat → Except Nat (α × Nat)} (h : ∀ i x j, rec i = .ok (x, j) → i < j) : ∀ (f : Nat) {i j : Nat} {acc xs : List α}, Tp.cmds l rec f i acc = .ok (xs, j) → i ≤ j
 | 0, _, _, _, _, hx => by cases hx
 | f + 1, i, j, acc, xs, hx => by
  unfold Tp.cmds at hx
  split at hx
  · cases h1 : rec i with
    | error j1 => rw [h1] at hx; cases hx
    | ok p =>
     obtain ⟨y, j1⟩ := p
     simp only [h1] at hx
     have a1 := h _ _ _ h1
     have a2 := Tp.cmds_go h f hx
     omega
  · cases hx; exact Nat.le_refl _
theorem Tp.block_go {α : Type} {rec : Nat → Except Nat (α × Nat)} (h : ∀ i x j, rec i = .ok (x, j) → i < j) {i j : Nat} {xs : List α} (hx : Tp.block l rec i = .ok (xs, j)) : i < j := by
 unfold Tp.block at hx
 cases h1 : Tp.want l ⟨#[123]⟩ i with
 | error j1 => rw [h1] at hx; cases hx
 | ok i1 =>
  simp only [h1] at hx
  cases h2 : Tp.cmds l rec (l.length + 1) i1 [] with
  | error j1 => rw [h2] at hx; cases hx
  | ok p =>
   obtain ⟨y, j1⟩ := p
   simp only [h2] at hx
   cases h3 : Tp.want l ⟨#[125]⟩ j1 with
   | error j2 => rw [h3] at hx; cases hx
   | ok j2 =>
    simp only [h3] at hx
    cases hx
    have a1 := Tp.want_ok h1
    have a2 := Tp.cmds_go h _ h2
    have a3 := Tp.want_ok h3
    omega
theorem Tp.change_go {n i j : Nat} {x : Tk.CT 61 (n + 1)} (hx : Tp.change l e i = .ok (x, j)) : i < j := by
 unfold Tp.change at hx
 cases h1 : Tp.name l i with
 | error j1 => rw [h1] at hx; cases hx
 | ok p =>
  obtain ⟨nm, i1⟩ := p
  simp only [h1] at hx
  have a1 := Tp.name_ok h1
  split at hx
  · cases h2 : Tp.index l (Tp.expr l e 61) 0 i1 with
    | error j1 => rw [h2] at hx; cases hx
    | ok p =>
     obtain ⟨y, j1⟩ := p
     simp only [h2] at hx
     cases h3 : Tp.want l ⟨#[61]⟩ j1 with
     | error j2 => rw [h3] at hx; cases hx
     | ok j2 =>
      simp only [h3] at hx
      cases h4 : Tp.expr l e 61 0 j2 with
      | error j3 => rw [h4] at hx; cases hx
      | ok p =>
       obtain ⟨z, j3⟩ := p
       simp only [h4] at hx
       cases hx
       have a2 := Tp.index_go (fun b i x j h => Tp.expr_go 61 h) h2
       have a3 := Tp.want_ok h3
       have a4 := Tp.expr_go 61 h4
       omega
  · cases h2 : Tp.want l ⟨#[61]⟩ i1 with
    | error j1 => rw [h2] at hx; cases hx
    | ok i2 =>
     simp only [h2] at hx
     have a2 := Tp.want_ok h2
     split at hx
     · cases hx; omega
     · split at hx
       · cases h3 : Tp.list l (Tp.expr l e 61 1) (i2 + 1) with
         | error j1 => rw [h3] at hx; cases hx
         | ok p =>
          obtain ⟨y, j1⟩ := p
          simp only [h3] at hx
          cases hx
          have a3 := Tp.list_go (fun i x j h => Tp.expr_go 61 h) h3
          omega
       · cases h3 : Tp.expr l e 61 0 i2 with
         | error j1 => rw [h3] at hx; cases hx
         | ok p =>
          obtain ⟨y, j1⟩ := p
          simp only [h3] at hx
          cases hx
          have a3 := Tp.expr_go 61 h3
          omega
theorem Tp.cmd_go : ∀ (n : Nat) {i j : Nat} {x : Tk.CT 61 n}, Tp.cmd l e n i = .ok (x, j) → i < j
 | 0, _, _, _, h => by cases h
 | n + 1, i, j, x, h => by
  have ih : ∀ i (x : Tk.CT 61 n) j, Tp.cmd l e n i = .ok (x, j) → i < j := fun i x j h => Tp.cmd_go n h
  unfold Tp.cmd Tp.cmdF at h
  split at h
  · cases h1 : Tp.expr l e 61 0 (i + 1) with
    | error j1 => rw [h1] at h; cases h
    | ok p =>
     obtain ⟨y, j1⟩ := p
     simp only [h1] at h
     cases h2 : Tp.want l ⟨#[59]⟩ j1 with
     | error j2 => rw [h2] at h; cases h
     | ok j2 =>
      simp only [h2] at h
      cases h
      have a1 := Tp.expr_go 61 h1
      have a2 := Tp.want_ok h2
      omega
  · split at h
    · cases h1 : Tp.expr l e 61 0 (i + 1) with
      | error j1 => rw [h1] at h; cases h
      | ok p =>
       obtain ⟨y, j1⟩ := p
       simp only [h1] at h
       have a1 := Tp.expr_go 61 h1
       cases h2 : Tp.block l (Tp.cmd l e n) j1 with
       | error j2 => rw [h2] at h; cases h
       | ok p =>
        obtain ⟨th, j2⟩ := p
        simp only [h2] at h
        have a2 := Tp.block_go ih h2
        split at h
        · cases h3 : Tp.block l (Tp.cmd l e n) (j2 + 1) with
          | error j3 => rw [h3] at h; cases h
          | ok p =>
           obtain ⟨el, j3⟩ := p
           simp only [h3] at h
           cases h
           have a3 := Tp.block_go ih h3
           omega
        · cases h; omega
    · split at h
      · cases h1 : Tp.expr l e 61 0 (i + 1) with
        | error j1 => rw [h1] at h; cases h
        | ok p =>
         obtain ⟨y, j1⟩ := p
         simp only [h1] at h
         have a1 := Tp.expr_go 61 h1
         cases h2 : Tp.block l (Tp.cmd l e n) j1 with
         | error j2 => rw [h2] at h; cases h
         | ok p =>
          obtain ⟨th, j2⟩ := p
          simp only [h2] at h
          cases h
          have a2 := Tp.block_go ih h2
          omega
      · cases h1 : Tp.change (n := n) l e i with
        | error j1 => rw [h1] at h; cases h
        | ok p =>
         obtain ⟨y, j1⟩ := p
         simp only [h1] at h
         have a1 := Tp.change_go h1
         cases h2 : Tp.want l ⟨#[59]⟩ j1 with
         | error j2 => rw [h2] at h; cases h
         | ok j2 =>
          simp only [h2] at h
          cases h
          have a2 := Tp.want_ok h2
          omega
end
end Go.Proofs.YtfccpddehpgfoaaGreatDoor
