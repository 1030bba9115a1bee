/-
  A slice of events that came in, as it is read. By the verifier.
-/
import Derived.Test.YtpabpcojiaklfaaCBase
import Derived.Deep.Slices
import Derived.Deep.Strs
import Derived.SizedLaws
namespace Go.Proofs.Ytpabpcojiaklfaa
open Go.RowKit Go.Deep Go.ChangeShapes
set_option linter.unusedVariables false

theorem Try.cellsEv : Try.prog.cellsOf 70 = 6 := by kernel_rfl
theorem Try.cells3 : Try.prog.cellsOf 3 = 1 := by kernel_rfl
theorem Try.bytesEv : Try.prog.bytesOf 70 = 48 := by kernel_rfl

theorem Cl.six_of {α : Type} : ∀ {cs : List α}, cs.length = 6 → ∃ a b c d e f, cs = [a, b, c, d, e, f]
  | [a, b, c, d, e, f], _ => ⟨a, b, c, d, e, f, rfl⟩

section
variable {H : Type} {enc : TypeId × Value → H} {W : World} {fuel : Nat}

theorem Cl.elem_arg {cs : List Value} {x : DataW H × List MemPlace} (h : DataW.trod enc Try.prog W 0 (fun _ => true) true fuel 70 cs = some x) : ∃ e : Ev, cs = e.cells := by
  obtain ⟨xs, n, _, _, hl, hlen, hf⟩ := DataW.trod_struct Try.underlying70 h
  rw [Try.cellsEv] at hl
  obtain ⟨v0, v1, v2, v3, v4, v5, rfl⟩ := Cl.six_of hl
  obtain ⟨x0, x1, x2, x3, x4, x5, rfl⟩ := Cl.six_of (show xs.length = 6 from hlen)
  have f0 : DataW.trod enc Try.prog W 0 (fun _ => true) true n 3 (([v0, v1, v2, v3, v4, v5].drop 0).take (Try.prog.cellsOf 3)) = some x0 := hf 0 _ rfl
  have f1 : DataW.trod enc Try.prog W 0 (fun _ => true) true n 3 (([v0, v1, v2, v3, v4, v5].drop 1).take (Try.prog.cellsOf 3)) = some x1 := hf 1 _ rfl
  have f2 : DataW.trod enc Try.prog W 0 (fun _ => true) true n 3 (([v0, v1, v2, v3, v4, v5].drop 2).take (Try.prog.cellsOf 3)) = some x2 := hf 2 _ rfl
  have f3 : DataW.trod enc Try.prog W 0 (fun _ => true) true n 3 (([v0, v1, v2, v3, v4, v5].drop 3).take (Try.prog.cellsOf 3)) = some x3 := hf 3 _ rfl
  have f4 : DataW.trod enc Try.prog W 0 (fun _ => true) true n 3 (([v0, v1, v2, v3, v4, v5].drop 4).take (Try.prog.cellsOf 3)) = some x4 := hf 4 _ rfl
  have f5 : DataW.trod enc Try.prog W 0 (fun _ => true) true n 3 (([v0, v1, v2, v3, v4, v5].drop 5).take (Try.prog.cellsOf 3)) = some x5 := hf 5 _ rfl
  rw [Try.cells3] at f0 f1 f2 f3 f4 f5
  obtain ⟨z0, e0, _, _⟩ := DataW.trod_int Try.underlying3 f0
  obtain ⟨z1, e1, _, _⟩ := DataW.trod_int Try.underlying3 f1
  obtain ⟨z2, e2, _, _⟩ := DataW.trod_int Try.underlying3 f2
  obtain ⟨z3, e3, _, _⟩ := DataW.trod_int Try.underlying3 f3
  obtain ⟨z4, e4, _, _⟩ := DataW.trod_int Try.underlying3 f4
  obtain ⟨z5, e5, _, _⟩ := DataW.trod_int Try.underlying3 f5
  simp at e0 e1 e2 e3 e4 e5
  subst e0 e1 e2 e3 e4 e5
  exact ⟨⟨z0, z1, z2, z3, z4, z5⟩, rfl⟩

theorem Cl.open_events {v : Value} {d : DataW H} {p : List MemPlace} (h : DataW.trod enc Try.prog W 0 (fun _ => true) true fuel 34 [v] = some (d, p)) :
    ∃ (ad : Option Addr) (l : List Ev) (cap : Nat), v = .slice ad l.length cap ∧ Cl.RE W ad l ∧ ((d = .nil ∧ l.length = 0) ∨ ∃ elems spare, d = .slice elems spare ∧ elems.length = l.length) := by
  rcases open_slice Try.underlying34 h with ⟨hcs, hx⟩ | ⟨a, len, cap, m, n, D, Pl, hcs, _, hl, hm, hmm, hx, hel⟩
  · simp at hcs hx
    subst hcs
    exact ⟨none, [], 0, rfl, Cl.RE.nil _ _, Or.inl ⟨hx.1, rfl⟩⟩
  · simp at hcs hmm
    subst hcs
    have each : ∀ i, i < len → ∃ e : Ev, ∀ j v, e.cells[j]? = some v → W.cell? (a.add (i * 6 + j)) = some v := by
      intro i hi
      obtain ⟨cs', h1, h2⟩ := hel i (by omega)
      rw [Try.cellsEv] at h1
      obtain ⟨e, rfl⟩ := Cl.elem_arg h2
      obtain ⟨_, _, hc⟩ := World.cells?_some h1
      refine ⟨e, fun j v hv => ?_⟩
      have hj : j < 6 := (List.getElem?_eq_some_iff.1 hv).1
      have e0 := hc j hj
      rw [add_add] at e0
      rw [e0]
      exact hv
    haveI : Inhabited Ev := ⟨⟨0, 0, 0, 0, 0, 0⟩⟩
    obtain ⟨F, hF⟩ := choose_lt each
    refine ⟨some a, (List.range len).map F, cap, by simp, ⟨fun i t hi => ?_⟩, Or.inr ⟨_, _, (Prod.mk.inj hx).1, by simp⟩⟩
    rw [List.getElem?_map] at hi
    by_cases hlt : i < len
    · rw [List.getElem?_range hlt] at hi
      simp at hi
      subst hi
      have f := hF i hlt
      obtain ⟨b, off, spot⟩ := a
      have hspot : spot = none := by simpa [Addr.add] using World.cell?_spot (hF 0 (by omega) 0 _ rfl)
      subst hspot
      have f0 := f 0 _ rfl
      have f1 := f 1 _ rfl
      have f2 := f 2 _ rfl
      have f3 := f 3 _ rfl
      have f4 := f 4 _ rfl
      have f5 := f 5 _ rfl
      have hb := World.block_lt_of_cell? W _ f0
      rw [Go.WideShapes.add_plain] at f0 f1 f2 f3 f4 f5 hb
      exact ⟨b, off, rfl, hb, by simpa using f0, f1, f2, f3, f4, f5⟩
    · rw [List.getElem?_eq_none (by simp; omega)] at hi
      simp at hi
end
end Go.Proofs.Ytpabpcojiaklfaa
