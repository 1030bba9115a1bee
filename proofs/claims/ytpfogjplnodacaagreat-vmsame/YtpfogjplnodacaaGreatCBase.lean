/-
  Columns: what the calls answer, as plain functions on lists; how slices of events are read. By the verifier.
-/
import Derived.Test.YtpfogjplnodacaaGreatDBase
namespace Go.Proofs.YtpfogjplnodacaaGreat
open Go.RowKit
set_option linter.unusedVariables false
structure Ev where
 n0 : Int
 n1 : Int
 n2 : Int
 n3 : Int
 n4 : Int
 n5 : Int
def Ev.cells (e : Ev) : List Value := [.int .i64 e.n0, .int .i64 e.n1, .int .i64 e.n2, .int .i64 e.n3, .int .i64 e.n4, .int .i64 e.n5]
def Ev.agg (e : Ev) : Value := .agg #[.int .i64 e.n0, .int .i64 e.n1, .int .i64 e.n2, .int .i64 e.n3, .int .i64 e.n4, .int .i64 e.n5]
def Ev.nums (e : Ev) : List Int := [e.n0, e.n1, e.n2, e.n3, e.n4, e.n5]
def Ev.col (e : Ev) : Nat → Int
 | 0 => e.n0
 | 1 => e.n1
 | 2 => e.n2
 | 3 => e.n3
 | 4 => e.n4
 | _ => e.n5
def Cl.isN (n : Int) : Bool := decide (-2147483648 ≤ n ∧ n ≤ 2147483647)
def Ev.ok (e : Ev) : Bool := Cl.isN e.n0 && Cl.isN e.n1 && Cl.isN e.n2 && Cl.isN e.n3 && Cl.isN e.n4 && Cl.isN e.n5
theorem Ev.ok_col {e : Ev} (h : e.ok = true) (c : Nat) : -2147483648 ≤ e.col c ∧ e.col c ≤ 2147483647 := by
 simp only [Ev.ok, Bool.and_eq_true, Cl.isN, decide_eq_true_eq] at h
 obtain ⟨⟨⟨⟨⟨h0, h1⟩, h2⟩, h3⟩, h4⟩, h5⟩ := h
 match c with
 | 0 => exact h0
 | 1 => exact h1
 | 2 => exact h2
 | 3 => exact h3
 | 4 => exact h4
 | _ + 5 => exact h5
structure Cl.RE (w : World) (ad : Option Addr) (l : List Ev) : Prop where
 at_ : ∀ i x, l[i]? = some x → ∃ b o, ad = some ⟨b, o, none⟩ ∧ b < w.heap.size ∧
  w.cell? ⟨b, o + i * 6, none⟩ = some (.int .i64 x.n0) ∧ w.cell? ⟨b, o + i * 6 + 1, none⟩ = some (.int .i64 x.n1) ∧ w.cell? ⟨b, o + i * 6 + 2, none⟩ = some (.int .i64 x.n2) ∧
  w.cell? ⟨b, o + i * 6 + 3, none⟩ = some (.int .i64 x.n3) ∧ w.cell? ⟨b, o + i * 6 + 4, none⟩ = some (.int .i64 x.n4) ∧ w.cell? ⟨b, o + i * 6 + 5, none⟩ = some (.int .i64 x.n5)
theorem Cl.RE.later {w w' : World} {ad : Option Addr} {l : List Ev} (h : Cl.RE w ad l) {B : Nat} (hb : Below B w w') (hB : w.heap.size ≤ B) : Cl.RE w' ad l :=
 ⟨fun i t hi => by
  obtain ⟨b, o, h1, h2, h3, h4, h5, h6, h7, h8⟩ := h.at_ i t hi
  have hc : ∀ j, w'.cell? ⟨b, j, none⟩ = w.cell? ⟨b, j, none⟩ := fun j => hb.cell (p := ⟨b, j, none⟩) (by show b < B; omega)
  exact ⟨b, o, h1, by have := hb.size; omega, by rw [hc]; exact h3, by rw [hc]; exact h4, by rw [hc]; exact h5, by rw [hc]; exact h6, by rw [hc]; exact h7, by rw [hc]; exact h8⟩⟩
theorem Cl.RE.nil (w : World) (ad : Option Addr) : Cl.RE w ad [] := ⟨fun i s h => by simp at h⟩
def Cl.natF : Nat → Nat → List Nat
 | 0, n => [n]
 | k + 1, n => if n < 128 then [n] else (n % 128 + 128) :: Cl.natF k (n / 128)
theorem Cl.natF_more : ∀ (k j n : Nat), n ≤ k → n ≤ j → Cl.natF k n = Cl.natF j n
 | 0, 0, n, _, _ => rfl
 | 0, j + 1, n, hk, _ => by
  obtain rfl : n = 0 := by omega
  rfl
 | k + 1, 0, n, _, hj => by
  obtain rfl : n = 0 := by omega
  rfl
 | k + 1, j + 1, n, hk, hj => by
  unfold Cl.natF
  by_cases h : n < 128
  · rw [if_pos h, if_pos h]
  · rw [if_neg h, if_neg h, Cl.natF_more k j (n / 128) (by omega) (by omega)]
def Cl.natB (n : Nat) : List Nat := Cl.natF n n
theorem Cl.natB_lt {n : Nat} (h : n < 128) : Cl.natB n = [n] := by
 unfold Cl.natB
 cases n with
 | zero => rfl
 | succ n => unfold Cl.natF; rw [if_pos h]
theorem Cl.natB_ge {n : Nat} (h : ¬ n < 128) : Cl.natB n = (n % 128 + 128) :: Cl.natB (n / 128) := by
 unfold Cl.natB
 cases n with
 | zero => omega
 | succ n =>
  rw [Cl.natF, if_neg h, Cl.natF_more n ((n + 1) / 128) ((n + 1) / 128) (by omega) (by omega)]
theorem Cl.natB_byte (n : Nat) : ∀ b ∈ Cl.natB n, b < 256 := by
 induction n using Nat.strongRecOn with
 | _ n ih =>
  by_cases h : n < 128
  · rw [Cl.natB_lt h]; intro b hb; simp at hb; omega
  · rw [Cl.natB_ge h]
    intro b hb
    cases hb with
    | head => omega
    | tail _ hb => exact ih (n / 128) (by omega) b hb
def Cl.zig (n : Int) : Nat := if n < 0 then (-2 * n - 1).toNat else (2 * n).toNat
def Cl.zag (n : Nat) : Int := if n % 2 = 1 then -(((n + 1) / 2 : Nat) : Int) else ((n / 2 : Nat) : Int)
theorem Cl.zag_zig (n : Int) : Cl.zag (Cl.zig n) = n := by
 unfold Cl.zag Cl.zig
 split <;> split <;> omega
theorem Cl.zig_zag (n : Nat) : Cl.zig (Cl.zag n) = n := by
 unfold Cl.zag Cl.zig
 split <;> split <;> omega
def Cl.colB (c : Nat) (p : Int) : List Ev → List Nat
 | [] => []
 | e :: r => Cl.natB (Cl.zig (e.col c - p)) ++ Cl.colB c (e.col c) r
def Cl.encTo (l : List Ev) : Nat → List Nat
 | 0 => Cl.natB l.length
 | k + 1 => Cl.encTo l k ++ Cl.colB k 0 l
def Cl.natG : Nat → Bool → List Nat → Option (Nat × List Nat)
 | 0, _, _ => none
 | _ + 1, _, [] => none
 | m + 1, isFirst, b :: r => if b < 128 then (if b = 0 ∧ isFirst = false then none else some (b, r)) else (Cl.natG m false r).map fun x => (b - 128 + 128 * x.1, x.2)
def Cl.decC : Nat → Int → List Nat → Option (List Int × List Nat)
 | 0, _, s => some ([], s)
 | k + 1, p, s => (Cl.natG 6 true s).bind fun x => (Cl.decC k (p + Cl.zag x.1) x.2).map fun y => ((p + Cl.zag x.1) :: y.1, y.2)
end Go.Proofs.YtpfogjplnodacaaGreat
