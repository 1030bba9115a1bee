/-
  A slice of tokens that came in, as it is read. By the verifier.
-/
import Derived.Test.YtnfigfedijhiiaaBegun
import Derived.Deep.Slices
import Derived.Deep.Strs
import Derived.SizedLaws
namespace Go.Proofs.Ytnfigfedijhiiaa
open Go.RowKit Go.Deep
set_option linter.unusedVariables false

theorem Try.cells34 : Try.prog.cellsOf 34 = 3 := by kernel_rfl
theorem Try.cells3 : Try.prog.cellsOf 3 = 1 := by kernel_rfl
theorem Try.cells9 : Try.prog.cellsOf 9 = 1 := by kernel_rfl
theorem Try.bytes34 : Try.prog.bytesOf 34 = 32 := by kernel_rfl

theorem Tk.elem_arg {H : Type} {enc : TypeId × Value → H} {W : World} {n : Nat} {cs : List Value} {x : DataW H × List MemPlace} (h : DataW.trod enc Try.prog W 0 (fun _ => true) true n 34 cs = some x) :
    ∃ (k a : Int) (s : ByteArray), cs = [.int .i64 k, .int .i64 a, .string s] ∧ s.size ≤ maxLen := by
  obtain ⟨y0, y1, y2, m, _, hl, h0, h1, h2⟩ := trod_struct3 Try.underlying34 h
  rw [Try.cells34] at hl
  match cs, hl with
  | [v0, v1, v2], _ =>
    have c3 := Try.cells3
    have c9 := Try.cells9
    simp only [Try.cells3] at h0 h1
    simp only [Try.cells9] at h2
    obtain ⟨z0, e0, _, _⟩ := DataW.trod_int Try.underlying3 h0
    obtain ⟨z1, e1, _, _⟩ := DataW.trod_int Try.underlying3 h1
    obtain ⟨s, e2, _, hs⟩ := DataW.trod_string Try.underlying9 h2
    simp at e0 e1 e2
    subst e0 e1 e2
    exact ⟨z0, z1, s, rfl, hs⟩

theorem Tk.open_arg {H : Type} {enc : TypeId × Value → H} {W : World} {v : Value} {d : DataW H} {p : List MemPlace} {fuel : Nat} (h : DataW.trod enc Try.prog W 0 (fun _ => true) true fuel 22 [v] = some (d, p)) :
    ∃ (ad : Option Addr) (l : List (Int × Int × ByteArray)) (cap : Nat), v = .slice ad l.length cap ∧ Tk.Reads W ad l ∧ ((d = .nil ∧ l.length = 0) ∨ ∃ elems spare, d = .slice elems spare ∧ elems.length = l.length) := by
  rcases open_slice Try.underlying22 h with ⟨hcs, hx⟩ | ⟨a, len, cap, m, n, D, Pl, hcs, _, hl, hm, hmm, hx, hel⟩
  · simp at hcs hx
    subst hcs
    exact ⟨none, [], 0, rfl, ⟨fun i t hi => by simp at hi⟩, Or.inl ⟨hx.1, rfl⟩⟩
  · simp at hcs hmm
    subst hcs
    have each : ∀ i, i < len → ∃ q : Int × Int × ByteArray, W.cell? (a.add (i * 3)) = some (.int .i64 q.1) ∧ W.cell? (a.add (i * 3 + 1)) = some (.int .i64 q.2.1) ∧ W.cell? (a.add (i * 3 + 2)) = some (.string q.2.2) ∧ q.2.2.size ≤ maxLen := by
      intro i hi
      obtain ⟨cs', h1, h2⟩ := hel i (by omega)
      rw [Try.cells34] at h1
      obtain ⟨k, b, s, rfl, hs⟩ := Tk.elem_arg h2
      obtain ⟨_, _, hc⟩ := World.cells?_some h1
      have e0 := hc 0 (by omega)
      have e1 := hc 1 (by omega)
      have e2 := hc 2 (by omega)
      rw [add_add] at e0 e1 e2
      exact ⟨(k, b, s), by simpa using e0, by simpa using e1, by simpa using e2, hs⟩
    obtain ⟨F, hF⟩ := choose_lt each
    refine ⟨some a, (List.range len).map F, cap, by simp, ⟨fun i t hi => ?_⟩, Or.inr ⟨_, _, (Prod.mk.inj hx).1, by simp⟩⟩
    rw [List.getElem?_map] at hi
    by_cases hlt : i < len
    · rw [List.getElem?_range hlt] at hi
      simp at hi
      subst hi
      obtain ⟨f0, f1, f2, f3⟩ := hF i hlt
      obtain ⟨b, off, spot⟩ := a
      have hspot : spot = none := by simpa [Addr.add] using World.cell?_spot (hF 0 (by omega)).1
      subst hspot
      have hb := World.block_lt_of_cell? W _ f0
      rw [Go.WideShapes.add_plain] at f0 f1 f2 hb
      exact ⟨b, off, rfl, hb, f0, f1, f2, f3⟩
    · rw [List.getElem?_eq_none (by simp; omega)] at hi
      simp at hi
end Go.Proofs.Ytnfigfedijhiiaa
