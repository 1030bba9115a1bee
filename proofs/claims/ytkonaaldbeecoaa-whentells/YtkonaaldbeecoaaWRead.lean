/-
  What Times and Spans answer, as it is read. By the verifier.
-/
import Derived.Test.YtkonaaldbeecoaaWSpans
import Derived.Test.YtkonaaldbeecoaaQOnce
import Derived.Test.YtkonaaldbeecoaaISmall
namespace Go.Proofs.Ytkonaaldbeecoaa
open Go.RowKit
set_option linter.unusedVariables false

/-- A slice of spans, as it is read. -/
structure Wn.RP (w : World) (ad : Option Addr) (l : List (Nat × Nat)) : Prop where
  at_ : ∀ i p, l[i]? = some p → ∃ g, ad = some ⟨g, 0, none⟩ ∧ g < w.heap.size ∧ w.cell? ⟨g, i * 2, none⟩ = some (.int .i64 (p.1 : Nat)) ∧ w.cell? ⟨g, i * 2 + 1, none⟩ = some (.int .i64 (p.2 : Nat))
theorem Wn.RP.later {w w' : World} {ad : Option Addr} {l : List (Nat × Nat)} (h : Wn.RP w ad l) {B : Nat} (hb : Below B w w') (hB : w.heap.size ≤ B) : Wn.RP w' ad l :=
  ⟨fun i p hi => by
    obtain ⟨g, h1, h2, h3, h4⟩ := h.at_ i p hi
    have hc : ∀ j, w'.cell? ⟨g, j, none⟩ = w.cell? ⟨g, j, none⟩ := fun j => hb.cell (p := ⟨g, j, none⟩) (by show g < B; omega)
    exact ⟨g, h1, by have := hb.size; omega, by rw [hc]; exact h3, by rw [hc]; exact h4⟩⟩
theorem Wn.RP.nil (w : World) (ad : Option Addr) : Wn.RP w ad [] := ⟨fun i s h => by simp at h⟩
theorem Wn.cells_at : ∀ (l : List (Nat × Nat)) (i : Nat) (p : Nat × Nat), l[i]? = some p → (Wn.cells l)[i * 2]? = some (.int .i64 (p.1 : Nat)) ∧ (Wn.cells l)[i * 2 + 1]? = some (.int .i64 (p.2 : Nat))
  | [], i, p, h => by simp at h
  | q :: r, 0, p, h => by
    simp at h
    subst h
    exact ⟨rfl, rfl⟩
  | q :: r, i + 1, p, h => by
    have ih := Wn.cells_at r i p (by simpa using h)
    have e : Wn.cells (q :: r) = .int .i64 (q.1 : Nat) :: .int .i64 (q.2 : Nat) :: Wn.cells r := rfl
    rw [e, show (i + 1) * 2 = i * 2 + 1 + 1 by omega, show i * 2 + 1 + 1 + 1 = (i * 2 + 1) + 1 + 1 by omega]
    simpa using ih
theorem Wn.cells_length : ∀ (l : List (Nat × Nat)), (Wn.cells l).length = l.length * 2
  | [] => rfl
  | q :: r => by
    have ih := Wn.cells_length r
    have e : Wn.cells (q :: r) = .int .i64 (q.1 : Nat) :: .int .i64 (q.2 : Nat) :: Wn.cells r := rfl
    rw [e]
    simp [ih]
    omega
theorem Wn.open_spans {w : World} {base : Nat} {v : Value} {l : List (Nat × Nat)} (h : w.ownsRow base 41 2 v l.length (Wn.cells l)) : ∃ a c, v = .slice a l.length c ∧ Wn.RP w a l := by
  rcases h.2 with ⟨rfl, h0⟩ | ⟨g, cap, cur, rfl, hB, hg, hn, hcap, _⟩
  · obtain rfl := List.length_eq_zero_iff.1 h0
    exact ⟨none, 0, rfl, Wn.RP.nil _ _⟩
  · refine ⟨_, _, rfl, ⟨fun i p hi => ⟨g, rfl, (Array.getElem?_eq_some_iff.1 hg).1, ?_, ?_⟩⟩⟩
    · have hlt := (List.getElem?_eq_some_iff.1 hi).1
      rw [h.cellAt (i * 2) (by omega)]
      exact (Wn.cells_at l i p hi).1
    · have hlt := (List.getElem?_eq_some_iff.1 hi).1
      rw [h.cellAt (i * 2 + 1) (by omega)]
      exact (Wn.cells_at l i p hi).2
theorem Wn.open_times {w : World} {base : Nat} {v : Value} {zs : List Int} (h : w.ownsRow base 3 1 v zs.length (zs.map (Value.int .i64))) : ∃ a c, v = .slice a zs.length c ∧ Ix.RI w a zs := by
  rcases h.2 with ⟨rfl, h0⟩ | ⟨g, cap, cur, rfl, hB, hg, hn, hcap, _⟩
  · obtain rfl := List.length_eq_zero_iff.1 h0
    exact ⟨none, 0, rfl, Ix.RI.nil _ _⟩
  · refine ⟨_, _, rfl, ⟨fun i x hi => ⟨g, 0, rfl, (Array.getElem?_eq_some_iff.1 hg).1, ?_⟩⟩⟩
    obtain ⟨hi', rfl⟩ := List.getElem?_eq_some_iff.1 hi
    rw [Nat.zero_add, h.cellAt i (by omega)]
    simp [List.getElem?_eq_getElem hi']

theorem Times_is (n : Nat) (e : Qk.E) (x : Qk.AT n) (l : List Ev) (ad : Option Addr) (cap : Nat) (f t : Int) (w : World) (h : Qk.RA w n e x) (hr : Cl.RE w ad l) (hw : ∀ e ∈ l, e.wf) (h0 : Qk.hErr n x l.length = 0) :
    Calls Try.prog 5 #[e.val, .slice ad l.length cap, .int .i64 f, .int .i64 t] w fun r w' => ∃ a c, r = .returned (.tuple #[.slice a (Wn.T (Qk.marks n x l) f t l.length).length c, .int .i64 0]) ∧ Ix.RI w' a (Wn.T (Qk.marks n x l) f t l.length) ∧ Below w.heap.size w w' :=
  (Times_ok n e x l ad cap f t w h hr hw h0).mono fun r w' ⟨v, h1, h2, h3⟩ => by
    obtain ⟨a, c, rfl, h4⟩ := Wn.open_times h2
    exact ⟨a, c, h1, h4, h3⟩
theorem Spans_is (n : Nat) (e : Qk.E) (x : Qk.AT n) (l : List Ev) (ad : Option Addr) (cap : Nat) (w : World) (h : Qk.RA w n e x) (hr : Cl.RE w ad l) (hw : ∀ e ∈ l, e.wf) (h0 : Qk.hErr n x l.length = 0) :
    Calls Try.prog 7 #[e.val, .slice ad l.length cap] w fun r w' => ∃ a c, r = .returned (.tuple #[.slice a (Wn.R (Qk.marks n x l) l.length).length c, .int .i64 0]) ∧ Wn.RP w' a (Wn.R (Qk.marks n x l) l.length) ∧ Below w.heap.size w w' :=
  (Spans_ok n e x l ad cap w h hr hw h0).mono fun r w' ⟨v, h1, h2, h3⟩ => by
    obtain ⟨a, c, rfl, h4⟩ := Wn.open_spans h2
    exact ⟨a, c, h1, h4, h3⟩

theorem Wn.eq2 (a b c d : Int) (W : World) : (Op.equalIn 10000 41 (.agg #[.int .i64 a, .int .i64 b]) (.agg #[.int .i64 c, .int .i64 d])).run Try.prog W = .ok (a == c && b == d) W := by
  have hs : (Go.sizeOf 3).run Try.prog W = .ok 1 W := by kernel_rfl
  have p0 : ∀ x y : Int, (part 3 #[.int .i64 x, .int .i64 y] 0).run Try.prog W = .ok (.int .i64 x) W := fun x y => by kernel_rfl
  have p1 : ∀ x y : Int, (part 3 #[.int .i64 x, .int .i64 y] 1).run Try.prog W = .ok (.int .i64 y) W := fun x y => by kernel_rfl
  have e : ∀ x y : Int, (Op.equalIn 9999 3 (.int .i64 x) (.int .i64 y)).run Try.prog W = .ok (x == y) W := fun x y => by
    rw [Op.equalIn]
    simp [run_underlying Try.underlying3]
  rw [Op.equalIn]
  simp only [Sem.run_bind, run_underlying Try.underlying41, hs, Result.andThen]
  simp [List.range', List.forIn_cons, p0, p1, e]
  by_cases h1 : a = c <;> by_cases h2 : b = d <;> simp [h1, h2]

theorem Wn.small_marks : Qk.marks 2 Qk.onceT Ix.small = [false, false, false, false, true, true] := by decide
theorem Wn.small_times : Wn.T (Qk.marks 2 Qk.onceT Ix.small) 0 9 Ix.small.length = [4, 5] := by rw [Wn.small_marks]; decide
theorem Wn.small_spans : Wn.R (Qk.marks 2 Qk.onceT Ix.small) Ix.small.length = [(4, 6)] := by rw [Wn.small_marks]; decide
theorem Wn.small_ok : Qk.hErr 2 Qk.onceT Ix.small.length = 0 := by decide
end Go.Proofs.Ytkonaaldbeecoaa
