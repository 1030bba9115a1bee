/-
  Several texts in one: LArg, LOArg. By the verifier.
-/
import Derived.Test.YtpabpcojiaklfaaDBase
import Derived.Test.YtpabpcojiaklfaaCArg
import Derived.Deep.Slices
import Derived.Deep.SlicePairs
import Derived.Deep.Strs
import Derived.SizedLaws
import Derived.Test.YtpabpcojiaklfaaLSmS
namespace Go.Proofs.Ytpabpcojiaklfaa
open Go.RowKit Go.Deep Go.ChangeShapes
set_option linter.unusedVariables false

theorem Try.cellsD : Try.prog.cellsOf 29 = 2 := by kernel_rfl
theorem Try.cellsWr : Try.prog.cellsOf 68 = 2 := by kernel_rfl
theorem Try.cellsSS : Try.prog.cellsOf 26 = 1 := by kernel_rfl
theorem Try.cellsSW : Try.prog.cellsOf 27 = 1 := by kernel_rfl
theorem Try.cells4 : Try.prog.cellsOf 4 = 1 := by kernel_rfl
theorem Try.cells9 : Try.prog.cellsOf 9 = 1 := by kernel_rfl

theorem Dk.two_of {cs : Array Value} (h : cs.size = 2) : ∃ u0 u1, cs = #[u0, u1] := by
  obtain ⟨l⟩ := cs
  match l, h with
  | [u0, u1], _ => exact ⟨u0, u1, rfl⟩

theorem Dk.at_plain {W : World} {a : Addr} {v : Value} (h : W.cell? (a.add 0) = some v) : ∃ b o, a = ⟨b, o, none⟩ := by
  obtain ⟨b, o, spot⟩ := a
  have hspot : spot = none := by simpa [Addr.add] using World.cell?_spot h
  subst hspot
  exact ⟨b, o, rfl⟩

section
variable {H : Type} {enc : TypeId × Value → H} {W : World} {fuel : Nat} {cs : List Value} {x : DataW H × List MemPlace}

theorem Dk.open_kept (h : DataW.trod enc Try.prog W 0 (fun _ => true) true fuel 26 cs = some x) :
    ∃ (ad : Option Addr) (l : List ByteArray) (cap : Nat), cs = [.slice ad l.length cap] ∧ Dk.RK W ad l ∧ l.length ≤ cap := by
  rcases open_slice1 Try.underlying26 Try.cells9 h with ⟨hcs, hx⟩ | ⟨a, len, cap, m, n, V, D, Pl, hcs, _, hl, hm, hmm, hx, hel⟩
  · exact ⟨none, [], 0, hcs, ⟨fun i t hi => by simp at hi⟩, by simp⟩
  · simp at hmm
    have each : ∀ i, i < len → ∃ s : ByteArray, W.cell? (a.add i) = some (.string s) ∧ s.size ≤ maxLen := by
      intro i hi
      obtain ⟨h1, h2⟩ := hel i (by omega)
      obtain ⟨s, e, _, hs⟩ := DataW.trod_string Try.underlying9 h2
      simp at e
      exact ⟨s, by rw [h1, e], hs⟩
    have : Inhabited ByteArray := ⟨⟨#[]⟩⟩
    obtain ⟨F, hF⟩ := choose_lt each
    refine ⟨some a, (List.range len).map F, cap, by simpa using hcs, ⟨fun i t hi => ?_⟩, by simp; omega⟩
    rw [List.getElem?_map] at hi
    by_cases hlt : i < len
    · rw [List.getElem?_range hlt] at hi
      simp at hi
      subst hi
      obtain ⟨b, o, rfl⟩ := Dk.at_plain (hF 0 (by omega)).1
      obtain ⟨f0, f1⟩ := hF i hlt
      have hb := World.block_lt_of_cell? W _ f0
      rw [Go.WideShapes.add_plain] at f0 hb
      exact ⟨b, o, rfl, hb, f0, f1⟩
    · rw [List.getElem?_eq_none (by simp; omega)] at hi
      simp at hi

theorem Dk.open_bits (h : DataW.trod enc Try.prog W 0 (fun _ => true) true fuel 24 cs = some x) :
    ∃ (ad : Option Addr) (l : List Bool) (cap : Nat), cs = [.slice ad l.length cap] ∧ Dk.RB W ad l := by
  rcases open_slice1 Try.underlying24 Try.cells4 h with ⟨hcs, hx⟩ | ⟨a, len, cap, m, n, V, D, Pl, hcs, _, hl, hm, hmm, hx, hel⟩
  · exact ⟨none, [], 0, hcs, ⟨fun i t hi => by simp at hi⟩⟩
  · simp at hmm
    have each : ∀ i, i < len → ∃ s : Bool, W.cell? (a.add i) = some (.bool s) := by
      intro i hi
      obtain ⟨h1, h2⟩ := hel i (by omega)
      obtain ⟨s, e, _⟩ := DataW.trod_bool Try.underlying4 h2
      simp at e
      exact ⟨s, by rw [h1, e]⟩
    obtain ⟨F, hF⟩ := choose_lt each
    refine ⟨some a, (List.range len).map F, cap, by simpa using hcs, ⟨fun i t hi => ?_⟩⟩
    rw [List.getElem?_map] at hi
    by_cases hlt : i < len
    · rw [List.getElem?_range hlt] at hi
      simp at hi
      subst hi
      obtain ⟨b, o, rfl⟩ := Dk.at_plain (hF 0 (by omega))
      have f0 := hF i hlt
      have hb := World.block_lt_of_cell? W _ f0
      rw [Go.WideShapes.add_plain] at f0 hb
      exact ⟨b, o, rfl, hb, f0⟩
    · rw [List.getElem?_eq_none (by simp; omega)] at hi
      simp at hi

theorem Dk.open_writes (h : DataW.trod enc Try.prog W 0 (fun _ => true) true fuel 27 cs = some x) :
    ∃ (ad : Option Addr) (l : List (Int × ByteArray)) (cap : Nat), cs = [.slice ad l.length cap] ∧ Dk.RW W ad l := by
  rcases open_slice_pairs Try.underlying27 Try.underlying68 Try.cellsWr rfl rfl Try.cells3 Try.cells9 h with ⟨hcs, hx⟩ | ⟨a, len, cap, m, n, V0, V1, D0, D1, P0, P1, hcs, _, hl, hm, hmm, hx, hel⟩
  · exact ⟨none, [], 0, hcs, ⟨fun i t hi => by simp at hi⟩⟩
  · simp at hmm
    have each : ∀ i, i < len → ∃ q : Int × ByteArray, W.cell? (a.add (i * 2)) = some (.int .i64 q.1) ∧ W.cell? (a.add (i * 2 + 1)) = some (.string q.2) ∧ q.2.size ≤ maxLen := by
      intro i hi
      obtain ⟨h1, h2, h3, h4⟩ := hel i (by omega)
      obtain ⟨z, e0, _, _⟩ := DataW.trod_int Try.underlying3 h3
      obtain ⟨s, e1, _, hs⟩ := DataW.trod_string Try.underlying9 h4
      simp at e0 e1
      exact ⟨(z, s), by rw [h1, e0], by rw [h2, e1], hs⟩
    have : Inhabited ByteArray := ⟨⟨#[]⟩⟩
    obtain ⟨F, hF⟩ := choose_lt each
    refine ⟨some a, (List.range len).map F, cap, by simpa using hcs, ⟨fun i t hi => ?_⟩⟩
    rw [List.getElem?_map] at hi
    by_cases hlt : i < len
    · rw [List.getElem?_range hlt] at hi
      simp at hi
      subst hi
      obtain ⟨b, o, rfl⟩ := Dk.at_plain (hF 0 (by omega)).1
      obtain ⟨f0, f1, f2⟩ := hF i hlt
      have hb := World.block_lt_of_cell? W _ f0
      rw [Go.WideShapes.add_plain] at f0 f1 hb
      exact ⟨b, o, rfl, hb, f0, f1, f2⟩
    · rw [List.getElem?_eq_none (by simp; omega)] at hi
      simp at hi

theorem Dk.open_disk {v0 v1 : Value} (h : DataW.trod enc Try.prog W 0 (fun _ => true) true fuel 29 [v0, v1] = some x) :
    ∃ (ka : Option Addr) (ks : List ByteArray) (kc : Nat) (wa : Option Addr) (ws : List (Int × ByteArray)) (wc : Nat), v0 = .slice ka ks.length kc ∧ v1 = .slice wa ws.length wc ∧ Dk.RK W ka ks ∧ Dk.RW W wa ws ∧ ks.length ≤ kc := by
  obtain ⟨y0, y1, m, _, hl, h0, h1⟩ := trod_struct2 Try.underlying29 h
  have cS := Try.cellsSS
  have cW := Try.cellsSW
  simp only [Try.cellsSS] at h0
  simp only [Try.cellsSW] at h1
  obtain ⟨ka, ks, kc, e0, r0, rc⟩ := Dk.open_kept h0
  obtain ⟨wa, ws, wc, e1, r1⟩ := Dk.open_writes h1
  simp at e0 e1
  exact ⟨ka, ks, kc, wa, ws, wc, e0, e1, r0, r1, rc⟩
end
end Go.Proofs.Ytpabpcojiaklfaa
namespace Go.Proofs.Ytpabpcojiaklfaa
open Go.RowKit Go.Deep Go.ChangeShapes
set_option linter.unusedVariables false

theorem Try.cellsEvs : Try.prog.cellsOf 34 = 1 := by kernel_rfl
theorem Try.bytesEvs : Try.prog.bytesOf 34 = 24 := by kernel_rfl
theorem Try.bytesInt : Try.prog.bytesOf 3 = 8 := by kernel_rfl

section
variable {H : Type} {enc : TypeId × Value → H} {W : World} {fuel : Nat} {cs : List Value} {x : DataW H × List MemPlace}

theorem Lg.open_batches (h : DataW.trod enc Try.prog W 0 (fun _ => true) true fuel 22 cs = some x) :
    ∃ (ad : Option Addr) (ls : List (List Ev)) (cap : Nat), cs = [.slice ad ls.length cap] ∧ Lg.RL W ad ls ∧ ((x.1 = .nil ∧ ls.length = 0) ∨ ∃ elems spare, x.1 = .slice elems spare ∧ elems.length = ls.length) := by
  rcases open_slice1 Try.underlying22 Try.cellsEvs h with ⟨hcs, hx⟩ | ⟨a, len, cap, m, n, V, D, Pl, hcs, _, hl, hm, hmm, hx, hel⟩
  · exact ⟨none, [], 0, hcs, ⟨fun i t hi => by simp at hi⟩, Or.inl ⟨by rw [hx], rfl⟩⟩
  · simp at hmm
    have each : ∀ i, i < len → ∃ l : List Ev, ∃ b c, W.cell? (a.add i) = some (.slice b l.length c) ∧ Cl.RE W b l := by
      intro i hi
      obtain ⟨h1, h2⟩ := hel i (by omega)
      obtain ⟨b, l, c, hv, hre, _⟩ := Cl.open_events h2
      exact ⟨l, b, c, by rw [h1, hv], hre⟩
    obtain ⟨F, hF⟩ := choose_lt each
    refine ⟨some a, (List.range len).map F, cap, by simpa using hcs, ⟨fun i t hi => ?_⟩, Or.inr ⟨_, _, by rw [hx], by simp⟩⟩
    rw [List.getElem?_map] at hi
    by_cases hlt : i < len
    · rw [List.getElem?_range hlt] at hi
      simp at hi
      subst hi
      obtain ⟨_, _, c00, _⟩ := hF 0 (by omega)
      obtain ⟨b, o, rfl⟩ := Dk.at_plain c00
      obtain ⟨b', c', f0, f1⟩ := hF i hlt
      have hb := World.block_lt_of_cell? W _ f0
      rw [Go.WideShapes.add_plain] at f0 hb
      exact ⟨b, o, b', c', rfl, hb, f0, f1⟩
    · rw [List.getElem?_eq_none (by simp; omega)] at hi
      simp at hi

theorem Lg.open_nums (h : DataW.trod enc Try.prog W 0 (fun _ => true) true fuel 23 cs = some x) :
    ∃ (ad : Option Addr) (l : List Int) (cap : Nat), cs = [.slice ad l.length cap] ∧ (∀ (i : Nat) (z : Int), l[i]? = some z → ∃ b o, ad = some ⟨b, o, none⟩ ∧ b < W.heap.size ∧ W.cell? ⟨b, o + i, none⟩ = some (.int .i64 z)) ∧ ((x.1 = .nil ∧ l.length = 0) ∨ ∃ elems spare, x.1 = .slice elems spare ∧ elems.length = l.length) := by
  rcases open_slice1 Try.underlying23 Try.cells3 h with ⟨hcs, hx⟩ | ⟨a, len, cap, m, n, V, D, Pl, hcs, _, hl, hm, hmm, hx, hel⟩
  · exact ⟨none, [], 0, hcs, fun i t hi => by simp at hi, Or.inl ⟨by rw [hx], rfl⟩⟩
  · simp at hmm
    have each : ∀ i, i < len → ∃ s : Int, W.cell? (a.add i) = some (.int .i64 s) := by
      intro i hi
      obtain ⟨h1, h2⟩ := hel i (by omega)
      obtain ⟨s, e, _⟩ := DataW.trod_int Try.underlying3 h2
      simp at e
      exact ⟨s, by rw [h1, e]⟩
    obtain ⟨F, hF⟩ := choose_lt each
    refine ⟨some a, (List.range len).map F, cap, by simpa using hcs, fun i t hi => ?_, Or.inr ⟨_, _, by rw [hx], by simp⟩⟩
    rw [List.getElem?_map] at hi
    by_cases hlt : i < len
    · rw [List.getElem?_range hlt] at hi
      simp at hi
      subst hi
      obtain ⟨b, o, rfl⟩ := Dk.at_plain (hF 0 (by omega))
      have f0 := hF i hlt
      have hb := World.block_lt_of_cell? W _ f0
      rw [Go.WideShapes.add_plain] at f0 hb
      exact ⟨b, o, rfl, hb, f0⟩
    · rw [List.getElem?_eq_none (by simp; omega)] at hi
      simp at hi
end
end Go.Proofs.Ytpabpcojiaklfaa
