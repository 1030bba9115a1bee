/- By the verifier. -/
import Derived.Test.YtfccpddehpgfoaaGreatDoorXH
namespace Go.Proofs.YtfccpddehpgfoaaGreatDoor
open Go.RowKit
set_option linter.unusedVariables false
section
variable {l : List Tp.T} {e : Int}
theorem ZfJ {α : Type} {rec : Nat → Nat → Except Nat (α × Nat)} (h : ∀ b i x j, rec b i = .ok (x, j) → i < j) {b i j : Nat} {x : α} (hx : Tp.index l rec b i = .ok (x, j)) : i < j := by
 unfold Tp.index at hx
 cases h1 : Zba l ⟨#[91]⟩ b i with
 | error j1 => rw [h1] at hx; cases hx
 | ok i1 =>
  simp only [h1] at hx
  cases h2 : rec (b + 1) i1 with
  | error j1 => rw [h2] at hx; cases hx
  | ok p =>
   obtain ⟨y, j1⟩ := p
   simp only [h2] at hx
   cases h3 : Zak l ⟨#[93]⟩ j1 with
   | error j2 => rw [h3] at hx; cases hx
   | ok j2 =>
    simp only [h3] at hx
    cases hx
    have a1 := ZfB h1
    have a2 := h _ _ _ _ h2
    have a3 := ZaJ h3
    omega
theorem ZjU {α : Type} {rec : Nat → Nat → Except Nat (α × Nat)} (h : ∀ b i x j, rec b i = .ok (x, j) → i < j) {b i j : Nat} {x : Nat × α × α} (hx : Zb5 l rec b i = .ok (x, j)) : i < j := by
 unfold Zb5 at hx
 cases h1 : Zba l ⟨#[40]⟩ b i with
 | error j1 => rw [h1] at hx; cases hx
 | ok i1 =>
  simp only [h1] at hx
  cases h2 : rec (b + 1) i1 with
  | error j1 => rw [h2] at hx; cases hx
  | ok p =>
   obtain ⟨y, j1⟩ := p
   simp only [h2] at hx
   split at hx
   · cases hx
   cases h3 : rec (b + 1) (j1 + 1) with
   | error j2 => rw [h3] at hx; cases hx
   | ok p =>
    obtain ⟨z, j2⟩ := p
    simp only [h3] at hx
    cases h4 : Zak l ⟨#[41]⟩ j2 with
    | error j3 => rw [h4] at hx; cases hx
    | ok j3 =>
     simp only [h4] at hx
     cases hx
     have a1 := ZfB h1
     have a2 := h _ _ _ _ h2
     have a3 := h _ _ _ _ h3
     have a4 := ZaJ h4
     omega
theorem Zbg : ∀ (d : Nat) {b i j : Nat} {x : Zat d}, Tp.expr l e d b i = .ok (x, j) → i < j
 | 0, _, _, _, _, h => by cases h
 | d + 1, b, i, j, x, h => by
  have ih : ∀ b i (x : Zat d) j, Tp.expr l e d b i = .ok (x, j) → i < j := fun b i x j h => Zbg d h
  unfold Tp.expr Zbb at h
  split at h
  · cases h1 : Zb5 l (Tp.expr l e d) b i with
    | error j1 => rw [h1] at h; cases h
    | ok p =>
     obtain ⟨⟨k, y, z⟩, j1⟩ := p
     simp only [h1] at h
     cases h
     exact ZjU ih h1
  split at h
  · cases h1 : ZbQ l (i + 1) with
    | error j1 => rw [h1] at h; cases h
    | ok p =>
     obtain ⟨y, j1⟩ := p
     simp only [h1] at h
     cases h
     have := ZdS h1
     omega
  split at h
  · split at h
    · cases h1 : Tp.index l (Tp.expr l e d) b (i + 1) with
      | error j1 => rw [h1] at h; cases h
      | ok p =>
       obtain ⟨y, j1⟩ := p
       simp only [h1] at h
       cases h
       have := ZfJ ih h1
       omega
    cases h; omega
  cases h1 : Tp.number l i with
  | error j1 => rw [h1] at h; cases h
  | ok p =>
   obtain ⟨y, j1⟩ := p
   simp only [h1] at h
   cases h
   have := Ze9 h1
   omega
theorem Zgg {α : Type} {thing : Nat → Except Nat (α × Nat)} (h : ∀ i x j, thing i = .ok (x, j) → i < j) : ∀ (f : Nat) {i j : Nat} {acc xs : List α}, ZbC l thing f i acc = .ok (xs, j) → i ≤ j
 | 0, _, _, _, _, hx => by cases hx
 | f + 1, i, j, acc, xs, hx => by
  unfold ZbC at hx
  split at hx
  · cases h1 : thing (i + 1) with
    | error j1 => rw [h1] at hx; cases hx
    | ok p =>
     obtain ⟨y, j1⟩ := p
     simp only [h1] at hx
     have a1 := h _ _ _ h1
     have a2 := Zgg h f hx
     omega
  cases hx; exact Nat.le_refl _
theorem Zjl {α : Type} {thing : Nat → Except Nat (α × Nat)} (h : ∀ i x j, thing i = .ok (x, j) → i < j) {i j : Nat} {xs : List α} (hx : Za8 l thing i = .ok (xs, j)) : i ≤ j := by
 unfold Za8 at hx
 split at hx
 · cases hx; exact Nat.le_refl _
 cases h1 : thing i with
 | error j1 => rw [h1] at hx; cases hx
 | ok p =>
  obtain ⟨y, j1⟩ := p
  simp only [h1] at hx
  have a1 := h _ _ _ h1
  have a2 := Zgg h _ hx
  omega
theorem ZgH {α : Type} {thing : Nat → Except Nat (α × Nat)} (h : ∀ i x j, thing i = .ok (x, j) → i < j) {i j : Nat} {xs : List α} (hx : Tp.list l thing i = .ok (xs, j)) : i < j := by
 unfold Tp.list at hx
 cases h1 : Zak l ⟨#[40]⟩ i with
 | error j1 => rw [h1] at hx; cases hx
 | ok i1 =>
  simp only [h1] at hx
  cases h2 : Za8 l thing i1 with
  | error j1 => rw [h2] at hx; cases hx
  | ok p =>
   obtain ⟨y, j1⟩ := p
   simp only [h2] at hx
   cases h3 : Zak l ⟨#[41]⟩ j1 with
   | error j2 => rw [h3] at hx; cases hx
   | ok j2 =>
    simp only [h3] at hx
    cases hx
    have a1 := ZaJ h1
    have a2 := Zjl h h2
    have a3 := ZaJ h3
    omega
theorem ZeH : ∀ (f : Nat) {i j : Nat} {acc xs : List (ByteArray × Int)}, Tp.vars l f i acc = .ok (xs, j) → i ≤ j
 | 0, _, _, _, _, h => by cases h
 | f + 1, i, j, acc, xs, h => by
  unfold Tp.vars at h
  split at h
  · cases h1 : Tp.name l (i + 1) with
    | error j1 => rw [h1] at h; cases h
    | ok p =>
     obtain ⟨y, j1⟩ := p
     simp only [h1] at h
     cases h2 : Zak l ⟨#[59]⟩ j1 with
     | error j2 => rw [h2] at h; cases h
     | ok j2 =>
      simp only [h2] at h
      have a1 := Zb4 h1
      have a2 := ZaJ h2
      have a3 := ZeH f h
      omega
  split at h
  · cases h1 : Tp.name l (i + 1) with
    | error j1 => rw [h1] at h; cases h
    | ok p =>
     obtain ⟨y, j1⟩ := p
     simp only [h1] at h
     cases h2 : ZbQ l j1 with
     | error j2 => rw [h2] at h; cases h
     | ok q =>
      obtain ⟨z, j2⟩ := q
      simp only [h2] at h
      cases h3 : Zak l ⟨#[59]⟩ j2 with
      | error j3 => rw [h3] at h; cases h
      | ok j3 =>
       simp only [h3] at h
       have a1 := Zb4 h1
       have a2 := ZdS h2
       have a3 := ZaJ h3
       have a4 := ZeH f h
       omega
  cases h; exact Nat.le_refl _
theorem ZeD {α : Type} {rec : Nat → Except Nat (α × Nat)} (h : ∀ i x j, rec i = .ok (x, j) → i < j) : ∀ (f : Nat) {i j : Nat} {acc xs : List α}, ZaV l rec f i acc = .ok (xs, j) → i ≤ j
 | 0, _, _, _, _, hx => by cases hx
 | f + 1, i, j, acc, xs, hx => by
  unfold ZaV at hx
  split at hx
  · cases h1 : rec i with
    | error j1 => rw [h1] at hx; cases hx
    | ok p =>
     obtain ⟨y, j1⟩ := p
     simp only [h1] at hx
     have a1 := h _ _ _ h1
     have a2 := ZeD h f hx
     omega
  cases hx; exact Nat.le_refl _
theorem Zc2 {α : Type} {rec : Nat → Except Nat (α × Nat)} (h : ∀ i x j, rec i = .ok (x, j) → i < j) {i j : Nat} {xs : List α} (hx : Tp.block l rec i = .ok (xs, j)) : i < j := by
 unfold Tp.block at hx
 cases h1 : Zak l ⟨#[123]⟩ i with
 | error j1 => rw [h1] at hx; cases hx
 | ok i1 =>
  simp only [h1] at hx
  cases h2 : ZaV l rec (l.length + 1) i1 [] with
  | error j1 => rw [h2] at hx; cases hx
  | ok p =>
   obtain ⟨y, j1⟩ := p
   simp only [h2] at hx
   cases h3 : Zak l ⟨#[125]⟩ j1 with
   | error j2 => rw [h3] at hx; cases hx
   | ok j2 =>
    simp only [h3] at hx
    cases hx
    have a1 := ZaJ h1
    have a2 := ZeD h _ h2
    have a3 := ZaJ h3
    omega
theorem Zh9 {n i j : Nat} {x : Zap 61 (n + 1)} (hx : Zax l e i = .ok (x, j)) : i < j := by
 unfold Zax at hx
 cases h1 : Tp.name l i with
 | error j1 => rw [h1] at hx; cases hx
 | ok p =>
  obtain ⟨nm, i1⟩ := p
  simp only [h1] at hx
  have a1 := Zb4 h1
  split at hx
  · cases h2 : Tp.index l (Tp.expr l e 61) 0 i1 with
    | error j1 => rw [h2] at hx; cases hx
    | ok p =>
     obtain ⟨y, j1⟩ := p
     simp only [h2] at hx
     cases h3 : Zak l ⟨#[61]⟩ j1 with
     | error j2 => rw [h3] at hx; cases hx
     | ok j2 =>
      simp only [h3] at hx
      cases h4 : Tp.expr l e 61 0 j2 with
      | error j3 => rw [h4] at hx; cases hx
      | ok p =>
       obtain ⟨z, j3⟩ := p
       simp only [h4] at hx
       cases hx
       have a2 := ZfJ (fun b i x j h => Zbg 61 h) h2
       have a3 := ZaJ h3
       have a4 := Zbg 61 h4
       omega
  cases h2 : Zak l ⟨#[61]⟩ i1 with
  | error j1 => rw [h2] at hx; cases hx
  | ok i2 =>
   simp only [h2] at hx
   have a2 := ZaJ h2
   split at hx
   · cases hx; omega
   split at hx
   · cases h3 : Tp.list l (Tp.expr l e 61 1) (i2 + 1) with
     | error j1 => rw [h3] at hx; cases hx
     | ok p =>
      obtain ⟨y, j1⟩ := p
      simp only [h3] at hx
      cases hx
      have a3 := ZgH (fun i x j h => Zbg 61 h) h3
      omega
   cases h3 : Tp.expr l e 61 0 i2 with
   | error j1 => rw [h3] at hx; cases hx
   | ok p =>
    obtain ⟨y, j1⟩ := p
    simp only [h3] at hx
    cases hx
    have a3 := Zbg 61 h3
    omega
theorem Zdh : ∀ (n : Nat) {i j : Nat} {x : Zap 61 n}, Tp.cmd l e n i = .ok (x, j) → i < j
 | 0, _, _, _, h => by cases h
 | n + 1, i, j, x, h => by
  have ih : ∀ i (x : Zap 61 n) j, Tp.cmd l e n i = .ok (x, j) → i < j := fun i x j h => Zdh n h
  unfold Tp.cmd Za0 at h
  split at h
  · cases h1 : Tp.expr l e 61 0 (i + 1) with
    | error j1 => rw [h1] at h; cases h
    | ok p =>
     obtain ⟨y, j1⟩ := p
     simp only [h1] at h
     cases h2 : Zak l ⟨#[59]⟩ j1 with
     | error j2 => rw [h2] at h; cases h
     | ok j2 =>
      simp only [h2] at h
      cases h
      have a1 := Zbg 61 h1
      have a2 := ZaJ h2
      omega
  split at h
  · cases h1 : Tp.expr l e 61 0 (i + 1) with
    | error j1 => rw [h1] at h; cases h
    | ok p =>
     obtain ⟨y, j1⟩ := p
     simp only [h1] at h
     have a1 := Zbg 61 h1
     cases h2 : Tp.block l (Tp.cmd l e n) j1 with
     | error j2 => rw [h2] at h; cases h
     | ok p =>
      obtain ⟨th, j2⟩ := p
      simp only [h2] at h
      have a2 := Zc2 ih h2
      split at h
      · cases h3 : Tp.block l (Tp.cmd l e n) (j2 + 1) with
        | error j3 => rw [h3] at h; cases h
        | ok p =>
         obtain ⟨el, j3⟩ := p
         simp only [h3] at h
         cases h
         have a3 := Zc2 ih h3
         omega
      cases h; omega
  split at h
  · cases h1 : Tp.expr l e 61 0 (i + 1) with
    | error j1 => rw [h1] at h; cases h
    | ok p =>
     obtain ⟨y, j1⟩ := p
     simp only [h1] at h
     have a1 := Zbg 61 h1
     cases h2 : Tp.block l (Tp.cmd l e n) j1 with
     | error j2 => rw [h2] at h; cases h
     | ok p =>
      obtain ⟨th, j2⟩ := p
      simp only [h2] at h
      cases h
      have a2 := Zc2 ih h2
      omega
  cases h1 : Zax (n := n) l e i with
  | error j1 => rw [h1] at h; cases h
  | ok p =>
   obtain ⟨y, j1⟩ := p
   simp only [h1] at h
   have a1 := Zh9 h1
   cases h2 : Zak l ⟨#[59]⟩ j1 with
   | error j2 => rw [h2] at h; cases h
   | ok j2 =>
    simp only [h2] at h
    cases h
    have a2 := ZaJ h2
    omega
end
end Go.Proofs.YtfccpddehpgfoaaGreatDoor
