/-
  The document's SameSpans and SameValues, of equal lists; how such lists are read. By the verifier.
-/
import Derived.Test.YtildjlaphkjegaaXCl
namespace Go.Proofs.Ytildjlaphkjegaa
open Go.RowKit Go.Maps
set_option linter.unusedVariables false

/-- A value as plain data. -/
structure Xr.Vl where
  time : Int
  frame : Int
  index : Int
  value : Int
def Xr.Vl.cl (s : Xr.Vl) : List Value := [.int .i64 s.time, .int .i64 s.frame, .int .i64 s.index, .int .i64 s.value]
def Xr.vlC (l : List Xr.Vl) : List Value := l.flatMap Xr.Vl.cl
theorem Xr.vlC_snoc (l : List Xr.Vl) (s : Xr.Vl) : Xr.vlC (l ++ [s]) = Xr.vlC l ++ s.cl := by unfold Xr.vlC; simp

structure Xr.RSp (w : World) (ad : Option Addr) (l : List Xr.Sp) : Prop where
  at_ : ∀ i x, l[i]? = some x → ∃ b o, ad = some ⟨b, o, none⟩ ∧ b < w.heap.size ∧ w.cell? ⟨b, o + i * 6, none⟩ = some (.int .i64 x.frame) ∧ w.cell? ⟨b, o + i * 6 + 1, none⟩ = some (.int .i64 x.fn) ∧ w.cell? ⟨b, o + i * 6 + 2, none⟩ = some (.int .i64 x.by_) ∧ w.cell? ⟨b, o + i * 6 + 3, none⟩ = some (.int .i64 x.from_) ∧ w.cell? ⟨b, o + i * 6 + 4, none⟩ = some (.int .i64 x.to_) ∧ w.cell? ⟨b, o + i * 6 + 5, none⟩ = some (.int .i64 x.ans)
theorem Xr.RSp.later {w w' : World} {ad : Option Addr} {l : List Xr.Sp} (h : Xr.RSp w ad l) {B : Nat} (hb : Below B w w') (hB : w.heap.size ≤ B) : Xr.RSp w' ad l :=
  ⟨fun i t hi => by
    obtain ⟨b, o, h1, h2, c0, c1, c2, c3, c4, c5⟩ := h.at_ i t hi
    have hc : ∀ j, w'.cell? ⟨b, j, none⟩ = w.cell? ⟨b, j, none⟩ := fun j => hb.cell (p := ⟨b, j, none⟩) (by show b < B; omega)
    exact ⟨b, o, h1, by have := hb.size; omega, (hc _).trans c0, (hc _).trans c1, (hc _).trans c2, (hc _).trans c3, (hc _).trans c4, (hc _).trans c5⟩⟩
theorem Xr.spC_at : ∀ (l : List Xr.Sp) (i : Nat) (x : Xr.Sp) (j : Nat) (v : Value), l[i]? = some x → x.cl[j]? = some v → (Xr.spC l)[i * 6 + j]? = some v
  | [], i, m, j, v, h, _ => by simp at h
  | e :: r, 0, m, j, v, h, hv => by
    simp at h
    subst h
    show (e.cl ++ Xr.spC r)[0 * 6 + j]? = _
    have hj := (List.getElem?_eq_some_iff.1 hv).1
    rw [Nat.zero_mul, Nat.zero_add, List.getElem?_append_left hj]
    exact hv
  | e :: r, i + 1, m, j, v, h, hv => by
    show (e.cl ++ Xr.spC r)[(i + 1) * 6 + j]? = _
    have e3 : e.cl.length = 6 := rfl
    rw [List.getElem?_append_right (by rw [e3]; omega), e3, show (i + 1) * 6 + j - 6 = i * 6 + j by omega]
    exact Xr.spC_at r i m j v (by simpa using h) hv
theorem Xr.RSp.own {W : World} {B n c : Nat} {a : Option Addr} {l : List Xr.Sp} (hl : l.length = n) (h : W.ownsRow B 55 6 (.slice a n c) n (Xr.spC l)) : Xr.RSp W a l := by
  refine ⟨fun i x hi => ?_⟩
  obtain ⟨g, cap, hv, _, _⟩ := h.form (by have := (List.getElem?_eq_some_iff.1 hi).1; omega)
  cases hv
  have cc : ∀ j v, x.cl[j]? = some v → W.cell? ⟨g, 0 + i * 6 + j, none⟩ = some v := fun j v hv => by
    have := h.cells (g := g) rfl (i * 6 + j) v (Xr.spC_at l i x j v hi hv)
    rw [Xr.add_at] at this
    rw [Nat.zero_add]
    exact this
  have c0 := cc 0 _ rfl
  exact ⟨g, 0, rfl, World.block_lt_of_cell? W _ c0, by simpa using c0, cc 1 _ rfl, cc 2 _ rfl, cc 3 _ rfl, cc 4 _ rfl, cc 5 _ rfl⟩

set_option maxRecDepth 100000 in
set_option maxHeartbeats 1600000 in
theorem SameSpans_eq (l : List Xr.Sp) (ad bd : Option Addr) (cap dap : Nat) (w : World) (hr : Xr.RSp w ad l) (hr2 : Xr.RSp w bd l) (hl : l.length ≤ 35184372088832) :
    Calls Try.prog 32 #[.slice ad l.length cap, .slice bd l.length dap] w fun e w' => e = .returned (.bool true) ∧ Below w.heap.size w w' := by
  have HR := hide hr
  have HR2 := hide hr2
  clear hr hr2
  have gll : ((l.length : Int) != (l.length : Int)) = false := by simp
  go_enter Try.func32, Try.ntmps32
  go_wp2_with fail
  go_loopw [5] (fun v wr => ∃ k : Nat, k ≤ l.length ∧ v = .int .i64 (k : Nat) ∧ Below w.heap.size w wr) (fun v _ => l.length - (intOf v).toNat)
  case atStart => exact ⟨0, by omega, rfl, Below.refl _ _⟩
  case round =>
    obtain ⟨k, hk, rfl, hbe⟩ := hrel
    have HBE := hide hbe
    clear hbe
    by_cases hlt : k < l.length
    · obtain ⟨t, ht⟩ : ∃ t, l[k]? = some t := ⟨l[k], List.getElem?_eq_getElem hlt⟩
      obtain ⟨b, o, rfl, hb, c0, c1, c2, c3, c4, c5⟩ := ((unhide HR).later (unhide HBE) (Nat.le_refl _)).at_ k t ht
      obtain ⟨b', o', rfl, hb', d0, d1, d2, d3, d4, d5⟩ := ((unhide HR2).later (unhide HBE) (Nat.le_refl _)).at_ k t ht
      clear ht
      have hk1 : (0 : Int) ≤ (k : Int) := by omega
      have hk2 : (k : Int) < (l.length : Int) := by omega
      go_wp2_with fail
      go_quiet (fail)
      go_wp2_with fail
      exact ⟨⟨k + 1, by omega, by go_num, below_drewN (unhide HBE) _⟩, by simp [intOf]; omega⟩
    · have hk2 : ¬ (k : Int) < (l.length : Int) := by omega
      go_wp2_with fail
      go_ret
      exact ⟨rfl, unhide HBE⟩

structure Xr.RVl (w : World) (ad : Option Addr) (l : List Xr.Vl) : Prop where
  at_ : ∀ i x, l[i]? = some x → ∃ b o, ad = some ⟨b, o, none⟩ ∧ b < w.heap.size ∧ w.cell? ⟨b, o + i * 4, none⟩ = some (.int .i64 x.time) ∧ w.cell? ⟨b, o + i * 4 + 1, none⟩ = some (.int .i64 x.frame) ∧ w.cell? ⟨b, o + i * 4 + 2, none⟩ = some (.int .i64 x.index) ∧ w.cell? ⟨b, o + i * 4 + 3, none⟩ = some (.int .i64 x.value)
theorem Xr.RVl.later {w w' : World} {ad : Option Addr} {l : List Xr.Vl} (h : Xr.RVl w ad l) {B : Nat} (hb : Below B w w') (hB : w.heap.size ≤ B) : Xr.RVl w' ad l :=
  ⟨fun i t hi => by
    obtain ⟨b, o, h1, h2, c0, c1, c2, c3⟩ := h.at_ i t hi
    have hc : ∀ j, w'.cell? ⟨b, j, none⟩ = w.cell? ⟨b, j, none⟩ := fun j => hb.cell (p := ⟨b, j, none⟩) (by show b < B; omega)
    exact ⟨b, o, h1, by have := hb.size; omega, (hc _).trans c0, (hc _).trans c1, (hc _).trans c2, (hc _).trans c3⟩⟩
theorem Xr.vlC_at : ∀ (l : List Xr.Vl) (i : Nat) (x : Xr.Vl) (j : Nat) (v : Value), l[i]? = some x → x.cl[j]? = some v → (Xr.vlC l)[i * 4 + j]? = some v
  | [], i, m, j, v, h, _ => by simp at h
  | e :: r, 0, m, j, v, h, hv => by
    simp at h
    subst h
    show (e.cl ++ Xr.vlC r)[0 * 4 + j]? = _
    have hj := (List.getElem?_eq_some_iff.1 hv).1
    rw [Nat.zero_mul, Nat.zero_add, List.getElem?_append_left hj]
    exact hv
  | e :: r, i + 1, m, j, v, h, hv => by
    show (e.cl ++ Xr.vlC r)[(i + 1) * 4 + j]? = _
    have e3 : e.cl.length = 4 := rfl
    rw [List.getElem?_append_right (by rw [e3]; omega), e3, show (i + 1) * 4 + j - 4 = i * 4 + j by omega]
    exact Xr.vlC_at r i m j v (by simpa using h) hv
theorem Xr.RVl.own {W : World} {B n c : Nat} {a : Option Addr} {l : List Xr.Vl} (hl : l.length = n) (h : W.ownsRow B 48 4 (.slice a n c) n (Xr.vlC l)) : Xr.RVl W a l := by
  refine ⟨fun i x hi => ?_⟩
  obtain ⟨g, cap, hv, _, _⟩ := h.form (by have := (List.getElem?_eq_some_iff.1 hi).1; omega)
  cases hv
  have cc : ∀ j v, x.cl[j]? = some v → W.cell? ⟨g, 0 + i * 4 + j, none⟩ = some v := fun j v hv => by
    have := h.cells (g := g) rfl (i * 4 + j) v (Xr.vlC_at l i x j v hi hv)
    rw [Xr.add_at] at this
    rw [Nat.zero_add]
    exact this
  have c0 := cc 0 _ rfl
  exact ⟨g, 0, rfl, World.block_lt_of_cell? W _ c0, by simpa using c0, cc 1 _ rfl, cc 2 _ rfl, cc 3 _ rfl⟩

set_option maxRecDepth 100000 in
set_option maxHeartbeats 1600000 in
theorem SameValues_eq (l : List Xr.Vl) (ad bd : Option Addr) (cap dap : Nat) (w : World) (hr : Xr.RVl w ad l) (hr2 : Xr.RVl w bd l) (hl : l.length ≤ 35184372088832) :
    Calls Try.prog 31 #[.slice ad l.length cap, .slice bd l.length dap] w fun e w' => e = .returned (.bool true) ∧ Below w.heap.size w w' := by
  have HR := hide hr
  have HR2 := hide hr2
  clear hr hr2
  have gll : ((l.length : Int) != (l.length : Int)) = false := by simp
  go_enter Try.func31, Try.ntmps31
  go_wp2_with fail
  go_loopw [5] (fun v wr => ∃ k : Nat, k ≤ l.length ∧ v = .int .i64 (k : Nat) ∧ Below w.heap.size w wr) (fun v _ => l.length - (intOf v).toNat)
  case atStart => exact ⟨0, by omega, rfl, Below.refl _ _⟩
  case round =>
    obtain ⟨k, hk, rfl, hbe⟩ := hrel
    have HBE := hide hbe
    clear hbe
    by_cases hlt : k < l.length
    · obtain ⟨t, ht⟩ : ∃ t, l[k]? = some t := ⟨l[k], List.getElem?_eq_getElem hlt⟩
      obtain ⟨b, o, rfl, hb, c0, c1, c2, c3⟩ := ((unhide HR).later (unhide HBE) (Nat.le_refl _)).at_ k t ht
      obtain ⟨b', o', rfl, hb', d0, d1, d2, d3⟩ := ((unhide HR2).later (unhide HBE) (Nat.le_refl _)).at_ k t ht
      clear ht
      have hk1 : (0 : Int) ≤ (k : Int) := by omega
      have hk2 : (k : Int) < (l.length : Int) := by omega
      go_wp2_with fail
      go_quiet (fail)
      go_wp2_with fail
      exact ⟨⟨k + 1, by omega, by go_num, below_drewN (unhide HBE) _⟩, by simp [intOf]; omega⟩
    · have hk2 : ¬ (k : Int) < (l.length : Int) := by omega
      go_wp2_with fail
      go_ret
      exact ⟨rfl, unhide HBE⟩
end Go.Proofs.Ytildjlaphkjegaa
