/-
  Columns: what the calls answer, as plain functions on lists; how slices of events are read. By the verifier.
-/
import Derived.Test.YtpfogjplnodacaaGreatDBase
namespace Go.Proofs.YtpfogjplnodacaaGreat
open Go.RowKit
set_option linter.unusedVariables false
structure Ev where
 n0 : Int
 n1 : Int
 n2 : Int
 n3 : Int
 n4 : Int
 n5 : Int
def Ev.cells (e : Ev) : List Value := [.int .i64 e.n0, .int .i64 e.n1, .int .i64 e.n2, .int .i64 e.n3, .int .i64 e.n4, .int .i64 e.n5]
def Ev.agg (e : Ev) : Value := .agg #[.int .i64 e.n0, .int .i64 e.n1, .int .i64 e.n2, .int .i64 e.n3, .int .i64 e.n4, .int .i64 e.n5]
def Cl.isN (n : Int) : Bool := decide (-2147483648 ≤ n ∧ n ≤ 2147483647)
def Ev.ok (e : Ev) : Bool := Cl.isN e.n0 && Cl.isN e.n1 && Cl.isN e.n2 && Cl.isN e.n3 && Cl.isN e.n4 && Cl.isN e.n5
structure Cl.RE (w : World) (ad : Option Addr) (l : List Ev) : Prop where
 at_ : ∀ i x, l[i]? = some x → ∃ b o, ad = some ⟨b, o, none⟩ ∧ b < w.heap.size ∧
  w.cell? ⟨b, o + i * 6, none⟩ = some (.int .i64 x.n0) ∧ w.cell? ⟨b, o + i * 6 + 1, none⟩ = some (.int .i64 x.n1) ∧ w.cell? ⟨b, o + i * 6 + 2, none⟩ = some (.int .i64 x.n2) ∧
  w.cell? ⟨b, o + i * 6 + 3, none⟩ = some (.int .i64 x.n3) ∧ w.cell? ⟨b, o + i * 6 + 4, none⟩ = some (.int .i64 x.n4) ∧ w.cell? ⟨b, o + i * 6 + 5, none⟩ = some (.int .i64 x.n5)
theorem Cl.RE.later {w w' : World} {ad : Option Addr} {l : List Ev} (h : Cl.RE w ad l) {B : Nat} (hb : Below B w w') (hB : w.heap.size ≤ B) : Cl.RE w' ad l :=
 ⟨fun i t hi => by
  obtain ⟨b, o, h1, h2, h3, h4, h5, h6, h7, h8⟩ := h.at_ i t hi
  have hc : ∀ j, w'.cell? ⟨b, j, none⟩ = w.cell? ⟨b, j, none⟩ := fun j => hb.cell (p := ⟨b, j, none⟩) (by show b < B; omega)
  exact ⟨b, o, h1, by have := hb.size; omega, by rw [hc]; exact h3, by rw [hc]; exact h4, by rw [hc]; exact h5, by rw [hc]; exact h6, by rw [hc]; exact h7, by rw [hc]; exact h8⟩⟩
theorem Cl.RE.nil (w : World) (ad : Option Addr) : Cl.RE w ad [] := ⟨fun i s h => by simp at h⟩
end Go.Proofs.YtpfogjplnodacaaGreat
