/-
  Lists of batches, and of numbers, that came in, as they are read. By the verifier.
-/
import Derived.Test.YtpekejebimkleaaLSameB
import Derived.Test.YtpekejebimkleaaCArg
import Derived.Test.YtpekejebimkleaaLArg
namespace Go.Proofs.Ytpekejebimkleaa
open Go.RowKit Go.Deep Go.ChangeShapes
set_option linter.unusedVariables false

theorem Try.cellsEvs : Try.prog.cellsOf 34 = 1 := by kernel_rfl
theorem Try.bytesEvs : Try.prog.bytesOf 34 = 24 := by kernel_rfl
theorem Try.bytesInt : Try.prog.bytesOf 3 = 8 := by kernel_rfl

section
variable {H : Type} {enc : TypeId × Value → H} {W : World} {fuel : Nat} {cs : List Value} {x : DataW H × List MemPlace}

theorem Lg.open_batches (h : DataW.trod enc Try.prog W 0 (fun _ => true) true fuel 22 cs = some x) :
    ∃ (ad : Option Addr) (ls : List (List Ev)) (cap : Nat), cs = [.slice ad ls.length cap] ∧ Lg.RL W ad ls ∧ ((x.1 = .nil ∧ ls.length = 0) ∨ ∃ elems spare, x.1 = .slice elems spare ∧ elems.length = ls.length) := by
  rcases open_slice1 Try.underlying22 Try.cellsEvs h with ⟨hcs, hx⟩ | ⟨a, len, cap, m, n, V, D, Pl, hcs, _, hl, hm, hmm, hx, hel⟩
  · exact ⟨none, [], 0, hcs, ⟨fun i t hi => by simp at hi⟩, Or.inl ⟨by rw [hx], rfl⟩⟩
  · simp at hmm
    have each : ∀ i, i < len → ∃ l : List Ev, ∃ b c, W.cell? (a.add i) = some (.slice b l.length c) ∧ Cl.RE W b l := by
      intro i hi
      obtain ⟨h1, h2⟩ := hel i (by omega)
      obtain ⟨b, l, c, hv, hre, _⟩ := Cl.open_events h2
      exact ⟨l, b, c, by rw [h1, hv], hre⟩
    obtain ⟨F, hF⟩ := choose_lt each
    refine ⟨some a, (List.range len).map F, cap, by simpa using hcs, ⟨fun i t hi => ?_⟩, Or.inr ⟨_, _, by rw [hx], by simp⟩⟩
    rw [List.getElem?_map] at hi
    by_cases hlt : i < len
    · rw [List.getElem?_range hlt] at hi
      simp at hi
      subst hi
      obtain ⟨_, _, c00, _⟩ := hF 0 (by omega)
      obtain ⟨b, o, rfl⟩ := Dk.at_plain c00
      obtain ⟨b', c', f0, f1⟩ := hF i hlt
      have hb := World.block_lt_of_cell? W _ f0
      rw [Go.WideShapes.add_plain] at f0 hb
      exact ⟨b, o, b', c', rfl, hb, f0, f1⟩
    · rw [List.getElem?_eq_none (by simp; omega)] at hi
      simp at hi

theorem Lg.open_nums (h : DataW.trod enc Try.prog W 0 (fun _ => true) true fuel 23 cs = some x) :
    ∃ (ad : Option Addr) (l : List Int) (cap : Nat), cs = [.slice ad l.length cap] ∧ (∀ (i : Nat) (z : Int), l[i]? = some z → ∃ b o, ad = some ⟨b, o, none⟩ ∧ b < W.heap.size ∧ W.cell? ⟨b, o + i, none⟩ = some (.int .i64 z)) ∧ ((x.1 = .nil ∧ l.length = 0) ∨ ∃ elems spare, x.1 = .slice elems spare ∧ elems.length = l.length) := by
  rcases open_slice1 Try.underlying23 Try.cells3 h with ⟨hcs, hx⟩ | ⟨a, len, cap, m, n, V, D, Pl, hcs, _, hl, hm, hmm, hx, hel⟩
  · exact ⟨none, [], 0, hcs, fun i t hi => by simp at hi, Or.inl ⟨by rw [hx], rfl⟩⟩
  · simp at hmm
    have each : ∀ i, i < len → ∃ s : Int, W.cell? (a.add i) = some (.int .i64 s) := by
      intro i hi
      obtain ⟨h1, h2⟩ := hel i (by omega)
      obtain ⟨s, e, _⟩ := DataW.trod_int Try.underlying3 h2
      simp at e
      exact ⟨s, by rw [h1, e]⟩
    obtain ⟨F, hF⟩ := choose_lt each
    refine ⟨some a, (List.range len).map F, cap, by simpa using hcs, fun i t hi => ?_, Or.inr ⟨_, _, by rw [hx], by simp⟩⟩
    rw [List.getElem?_map] at hi
    by_cases hlt : i < len
    · rw [List.getElem?_range hlt] at hi
      simp at hi
      subst hi
      obtain ⟨b, o, rfl⟩ := Dk.at_plain (hF 0 (by omega))
      have f0 := hF i hlt
      have hb := World.block_lt_of_cell? W _ f0
      rw [Go.WideShapes.add_plain] at f0 hb
      exact ⟨b, o, rfl, hb, f0⟩
    · rw [List.getElem?_eq_none (by simp; omega)] at hi
      simp at hi
end
end Go.Proofs.Ytpekejebimkleaa
