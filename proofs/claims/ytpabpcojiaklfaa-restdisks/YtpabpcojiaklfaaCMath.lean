/-
  What is encoded is decoded as it was, and nothing else is: on lists. By the verifier.
-/
import Derived.Test.YtpabpcojiaklfaaCDecLem
namespace Go.Proofs.Ytpabpcojiaklfaa
open Go.RowKit
set_option linter.unusedVariables false

theorem Cl.natG_natB : ∀ (m n : Nat) (f : Bool) (s : List Nat), n < 128 ^ (m + 1) → (n ≠ 0 ∨ f = true) → Cl.natG (m + 1) f (Cl.natB n ++ s) = some (n, s)
  | m, n, f, s, hn, hf => by
    by_cases h : n < 128
    · rw [Cl.natB_lt h]
      show (if n < 128 then (if n = 0 ∧ f = false then none else some (n, s)) else _) = _
      rw [if_pos h, if_neg (by intro hh; rcases hf with h1 | h1; exact h1 hh.1; rw [h1] at hh; cases hh.2)]
    · rw [Cl.natB_ge h]
      show (if n % 128 + 128 < 128 then _ else (Cl.natG m false (Cl.natB (n / 128) ++ s)).map fun x => (n % 128 + 128 - 128 + 128 * x.1, x.2)) = _
      rw [if_neg (by omega)]
      cases m with
      | zero => simp at hn; omega
      | succ m =>
        rw [Cl.natG_natB m (n / 128) false s (by rw [Nat.div_lt_iff_lt_mul (by omega)]; rwa [Nat.pow_succ] at hn) (Or.inl (by omega))]
        show some (n % 128 + 128 - 128 + 128 * (n / 128), s) = _
        have : n % 128 + 128 - 128 + 128 * (n / 128) = n := by omega
        rw [this]

theorem Cl.natG_inv : ∀ (m : Nat) (f : Bool) (s : List Nat) (x : Nat × List Nat), (∀ b ∈ s, b < 256) → Cl.natG m f s = some x → s = Cl.natB x.1 ++ x.2 ∧ (f = false → x.1 ≠ 0)
  | 0, f, s, x, _, h => by cases s <;> cases h
  | m + 1, f, [], x, _, h => by cases h
  | m + 1, f, b :: r, x, hb, h => by
    have hb0 := hb b List.mem_cons_self
    have hr : ∀ c ∈ r, c < 256 := fun c hc => hb c (List.mem_cons_of_mem _ hc)
    have h' : (if b < 128 then (if b = 0 ∧ f = false then none else some (b, r)) else (Cl.natG m false r).map fun x => (b - 128 + 128 * x.1, x.2)) = some x := h
    split at h'
    · rename_i h1
      split at h'
      · cases h'
      · rename_i h2
        cases h'
        exact ⟨by rw [Cl.natB_lt h1]; rfl, fun hf h0 => h2 ⟨h0, hf⟩⟩
    · rename_i h1
      cases h2 : Cl.natG m false r with
      | none => rw [h2] at h'; cases h'
      | some y =>
        rw [h2] at h'
        cases h'
        obtain ⟨i1, i2⟩ := Cl.natG_inv m false r y hr h2
        have hy := i2 rfl
        refine ⟨?_, fun _ => by show b - 128 + 128 * y.1 ≠ 0; omega⟩
        show b :: r = Cl.natB (b - 128 + 128 * y.1) ++ y.2
        rw [Cl.natB_ge (by omega), show (b - 128 + 128 * y.1) % 128 + 128 = b by omega, show (b - 128 + 128 * y.1) / 128 = y.1 by omega]
        show b :: r = b :: (Cl.natB y.1 ++ y.2)
        rw [← i1]

/-- A column's bytes, of its numbers. -/
def Cl.colI (p : Int) : List Int → List Nat
  | [] => []
  | y :: r => Cl.natB (Cl.zig (y - p)) ++ Cl.colI y r
theorem Cl.colB_eq (c : Nat) : ∀ (l : List Ev) (p : Int), Cl.colB c p l = Cl.colI p (l.map (·.col c))
  | [], p => rfl
  | e :: r, p => by
    show Cl.natB _ ++ Cl.colB c (e.col c) r = Cl.natB _ ++ Cl.colI (e.col c) (r.map (·.col c))
    rw [Cl.colB_eq c r (e.col c)]

theorem Cl.decC_colI : ∀ (ys : List Int) (p : Int) (s : List Nat), (∀ y ∈ ys, -2147483648 ≤ y ∧ y ≤ 2147483647) → (-2147483648 ≤ p ∧ p ≤ 2147483647) → Cl.decC ys.length p (Cl.colI p ys ++ s) = some (ys, s)
  | [], p, s, _, _ => rfl
  | y :: r, p, s, hy, hp => by
    have h0 := hy y List.mem_cons_self
    have hz : Cl.zig (y - p) < 128 ^ (5 + 1) := by
      have : Cl.zig (y - p) < 4398046511104 := by unfold Cl.zig; split <;> omega
      have e : (128 : Nat) ^ (5 + 1) = 4398046511104 := by decide
      omega
    show ((Cl.natG 6 true ((Cl.natB (Cl.zig (y - p)) ++ Cl.colI y r) ++ s)).bind fun x => (Cl.decC r.length (p + Cl.zag x.1) x.2).map fun z => ((p + Cl.zag x.1) :: z.1, z.2)) = _
    rw [List.append_assoc, Cl.natG_natB 5 _ true _ hz (Or.inr rfl)]
    show (Cl.decC r.length (p + Cl.zag (Cl.zig (y - p))) (Cl.colI y r ++ s)).map (fun z => ((p + Cl.zag (Cl.zig (y - p))) :: z.1, z.2)) = _
    rw [Cl.zag_zig, show p + (y - p) = y by omega, Cl.decC_colI r y s (fun z hz => hy z (List.mem_cons_of_mem _ hz)) h0]
    rfl

theorem Cl.decC_inv : ∀ (k : Nat) (p : Int) (s : List Nat) (x : List Int × List Nat), (∀ b ∈ s, b < 256) → Cl.decC k p s = some x → s = Cl.colI p x.1 ++ x.2 ∧ x.1.length = k ∧ (∀ b ∈ x.2, b < 256)
  | 0, p, s, x, hb, h => by cases h; exact ⟨rfl, rfl, hb⟩
  | k + 1, p, s, x, hb, h => by
    have h' : ((Cl.natG 6 true s).bind fun x => (Cl.decC k (p + Cl.zag x.1) x.2).map fun y => ((p + Cl.zag x.1) :: y.1, y.2)) = some x := h
    cases h1 : Cl.natG 6 true s with
    | none => rw [h1] at h'; cases h'
    | some y =>
      rw [h1] at h'
      have h'' : (Cl.decC k (p + Cl.zag y.1) y.2).map (fun z => ((p + Cl.zag y.1) :: z.1, z.2)) = some x := h'
      obtain ⟨_, hb2, _⟩ := Cl.natG_lt 6 true s y hb h1
      cases h2 : Cl.decC k (p + Cl.zag y.1) y.2 with
      | none => rw [h2] at h''; cases h''
      | some z =>
        rw [h2] at h''
        cases h''
        obtain ⟨i1, i2, i3⟩ := Cl.decC_inv k (p + Cl.zag y.1) y.2 z hb2 h2
        refine ⟨?_, by show z.1.length + 1 = k + 1; omega, i3⟩
        show s = (Cl.natB (Cl.zig (p + Cl.zag y.1 - p)) ++ Cl.colI (p + Cl.zag y.1) z.1) ++ z.2
        rw [show p + Cl.zag y.1 - p = Cl.zag y.1 by omega, Cl.zig_zag, List.append_assoc, ← i1]
        exact (Cl.natG_inv 6 true s y hb h1).1

/-- The bytes of columns, one behind the other. -/
def Cl.colsI : List (List Int) → List Nat
  | [] => []
  | y :: r => Cl.colI 0 y ++ Cl.colsI r
theorem Cl.colsI_snoc (y : List Int) : ∀ a : List (List Int), Cl.colsI (a ++ [y]) = Cl.colsI a ++ Cl.colI 0 y
  | [] => by show Cl.colI 0 y ++ [] = [] ++ _; simp
  | x :: r => by
    show Cl.colI 0 x ++ Cl.colsI (r ++ [y]) = (Cl.colI 0 x ++ Cl.colsI r) ++ _
    rw [Cl.colsI_snoc y r, List.append_assoc]

theorem Cl.decCols_inv (n : Nat) : ∀ (c : Nat) (s : List Nat) (x : List (List Int) × List Nat), (∀ b ∈ s, b < 256) → Cl.decCols n c s = some x → s = Cl.colsI x.1 ++ x.2 ∧ x.1.length = c ∧ (∀ y ∈ x.1, y.length = n) ∧ (∀ b ∈ x.2, b < 256)
  | 0, s, x, hb, h => by cases h; exact ⟨rfl, rfl, fun y hy => (by cases hy), hb⟩
  | c + 1, s, x, hb, h => by
    have h' : ((Cl.decCols n c s).bind fun x => (Cl.decC n 0 x.2).map fun y => (x.1 ++ [y.1], y.2)) = some x := h
    cases h1 : Cl.decCols n c s with
    | none => rw [h1] at h'; cases h'
    | some y =>
      rw [h1] at h'
      have h'' : (Cl.decC n 0 y.2).map (fun z => (y.1 ++ [z.1], z.2)) = some x := h'
      obtain ⟨i1, i2, i3, i4⟩ := Cl.decCols_inv n c s y hb h1
      cases h2 : Cl.decC n 0 y.2 with
      | none => rw [h2] at h''; cases h''
      | some z =>
        rw [h2] at h''
        cases h''
        obtain ⟨j1, j2, j3⟩ := Cl.decC_inv n 0 y.2 z i4 h2
        refine ⟨?_, by show (y.1 ++ [z.1]).length = _; simp [i2], ?_, j3⟩
        · show s = Cl.colsI (y.1 ++ [z.1]) ++ z.2
          rw [Cl.colsI_snoc, List.append_assoc, ← j1]
          exact i1
        · intro u hu
          rcases List.mem_append.1 hu with hh | hh
          · exact i3 u hh
          · simp at hh; rw [hh]; exact j2

theorem Cl.decCols_cols (n : Nat) : ∀ (c : Nat) (cols : List (List Int)) (s : List Nat), cols.length = c → (∀ y ∈ cols, y.length = n ∧ ∀ z ∈ y, -2147483648 ≤ z ∧ z ≤ 2147483647) → Cl.decCols n c (Cl.colsI cols ++ s) = some (cols, s)
  | 0, cols, s, hc, _ => by
    have : cols = [] := List.eq_nil_of_length_eq_zero hc
    subst this
    rfl
  | c + 1, cols, s, hc, hy => by
    have hne : cols ≠ [] := by intro hh; rw [hh] at hc; cases hc
    obtain ⟨a, y, rfl⟩ : ∃ a y, cols = a ++ [y] := ⟨cols.dropLast, cols.getLast hne, (List.dropLast_concat_getLast hne).symm⟩
    have hca : a.length = c := by simp at hc; omega
    have hyy := hy y (by simp)
    show (Cl.decCols n c (Cl.colsI (a ++ [y]) ++ s)).bind _ = _
    rw [Cl.colsI_snoc, List.append_assoc, Cl.decCols_cols n c a _ hca (fun u hu => hy u (by simp [hu]))]
    show (Cl.decC n 0 (Cl.colI 0 y ++ s)).map _ = _
    have := Cl.decC_colI y 0 s hyy.2 ⟨by omega, by omega⟩
    rw [hyy.1] at this
    rw [this]
    rfl

/-- The six columns of events. -/
def Cl.six (l : List Ev) : List (List Int) := [l.map (·.col 0), l.map (·.col 1), l.map (·.col 2), l.map (·.col 3), l.map (·.col 4), l.map (·.col 5)]
theorem Cl.encTo_six (l : List Ev) : Cl.encTo l 6 = Cl.natB l.length ++ Cl.colsI (Cl.six l) := by
  show ((((((Cl.natB l.length ++ Cl.colB 0 0 l) ++ Cl.colB 1 0 l) ++ Cl.colB 2 0 l) ++ Cl.colB 3 0 l) ++ Cl.colB 4 0 l) ++ Cl.colB 5 0 l) = _
  simp only [Cl.colB_eq, Cl.six, Cl.colsI, List.append_assoc, List.append_nil]
theorem Cl.evs_six (l : List Ev) : Cl.evs l.length (Cl.six l) = l := by
  apply List.ext_getElem
  · unfold Cl.evs; simp
  · intro i h1 h2
    unfold Cl.evs Cl.six
    simp [Ev.col, h2]
theorem Cl.six_evs (n : Nat) (cols : List (List Int)) (hc : cols.length = 6) (hy : ∀ y ∈ cols, y.length = n) : Cl.six (Cl.evs n cols) = cols := by
  match cols, hc with
  | [y0, y1, y2, y3, y4, y5], _ =>
    have e : ∀ y : List Int, y.length = n → (List.range n).map (fun i => y[i]?.getD 0) = y := fun y h => by
      apply List.ext_getElem
      · simp [h]
      · intro i h1 h2
        simp [h2]
    unfold Cl.six Cl.evs
    simp only [List.map_map]
    have h0 := e y0 (hy y0 (by simp))
    have h1 := e y1 (hy y1 (by simp))
    have h2 := e y2 (hy y2 (by simp))
    have h3 := e y3 (hy y3 (by simp))
    have h4 := e y4 (hy y4 (by simp))
    have h5 := e y5 (hy y5 (by simp))
    show [(List.range n).map (fun i => y0[i]?.getD 0), (List.range n).map (fun i => y1[i]?.getD 0), (List.range n).map (fun i => y2[i]?.getD 0), (List.range n).map (fun i => y3[i]?.getD 0), (List.range n).map (fun i => y4[i]?.getD 0), (List.range n).map (fun i => y5[i]?.getD 0)] = _
    rw [h0, h1, h2, h3, h4, h5]

/-- What is encoded is decoded as it was. -/
theorem Cl.dec_enc (l : List Ev) (hl : l.length ≤ 4000) (hok : l.all Ev.ok = true) : Cl.decR (Cl.encTo l 6) = (l, 0) := by
  have ha : ∀ e ∈ l, e.ok = true := List.all_eq_true.1 hok
  have h1 : Cl.natG 6 true (Cl.encTo l 6) = some (l.length, Cl.colsI (Cl.six l)) := by
    rw [Cl.encTo_six]
    exact Cl.natG_natB 5 _ true _ (by have e : (128 : Nat) ^ (5 + 1) = 4398046511104 := by decide
                                      omega) (Or.inr rfl)
  have hcol : ∀ c, ∀ z ∈ l.map (·.col c), -2147483648 ≤ z ∧ z ≤ 2147483647 := fun c z hz => by
    obtain ⟨e, he, rfl⟩ := List.mem_map.1 hz
    exact Ev.ok_col (ha e he) c
  have h2 : Cl.decCols l.length 6 (Cl.colsI (Cl.six l)) = some (Cl.six l, []) := by
    have := Cl.decCols_cols l.length 6 (Cl.six l) [] rfl (fun y hy => by
      unfold Cl.six at hy
      simp only [List.mem_cons, List.not_mem_nil, or_false] at hy
      rcases hy with rfl | rfl | rfl | rfl | rfl | rfl
      · exact ⟨by simp, hcol 0⟩
      · exact ⟨by simp, hcol 1⟩
      · exact ⟨by simp, hcol 2⟩
      · exact ⟨by simp, hcol 3⟩
      · exact ⟨by simp, hcol 4⟩
      · exact ⟨by simp, hcol 5⟩)
    rwa [List.append_nil] at this
  unfold Cl.decR
  rw [h1]
  show (if 4000 < l.length then _ else match Cl.decCols l.length 6 (Cl.colsI (Cl.six l)) with | none => _ | some y => _) = _
  rw [if_neg (by omega), h2]
  show (if ([] : List Nat) = [] ∧ (Cl.evs l.length (Cl.six l)).all Ev.ok = true then (Cl.evs l.length (Cl.six l), 0) else ([], 1)) = _
  rw [Cl.evs_six, if_pos ⟨rfl, hok⟩]

/-- And nothing else is. -/
theorem Cl.enc_dec (s : List Nat) (hb : ∀ b ∈ s, b < 256) (h : (Cl.decR s).2 = 0) : (Cl.decR s).1.length ≤ 4000 ∧ (Cl.decR s).1.all Ev.ok = true ∧ Cl.encTo (Cl.decR s).1 6 = s := by
  unfold Cl.decR at h ⊢
  cases h1 : Cl.natG 6 true s with
  | none => rw [h1] at h; cases h
  | some x =>
    rw [h1] at h
    simp only at h ⊢
    obtain ⟨_, hb2, _⟩ := Cl.natG_lt 6 true s x hb h1
    by_cases h4 : 4000 < x.1
    · rw [if_pos h4] at h; cases h
    · rw [if_neg h4] at h ⊢
      cases h2 : Cl.decCols x.1 6 x.2 with
      | none => rw [h2] at h; cases h
      | some y =>
        rw [h2] at h
        simp only at h ⊢
        by_cases h5 : y.2 = [] ∧ (Cl.evs x.1 y.1).all Ev.ok = true
        · rw [if_pos h5]
          obtain ⟨i1, i2, i3, i4⟩ := Cl.decCols_inv x.1 6 x.2 y hb2 h2
          have hlen : (Cl.evs x.1 y.1).length = x.1 := by unfold Cl.evs; simp
          refine ⟨by rw [hlen]; omega, h5.2, ?_⟩
          rw [Cl.encTo_six, hlen, Cl.six_evs x.1 y.1 i2 i3]
          have e1 := (Cl.natG_inv 6 true s x hb h1).1
          rw [h5.1, List.append_nil] at i1
          rw [← i1]
          exact e1.symm
        · rw [if_neg h5] at h; cases h

theorem Cl.decR_err (s : List Nat) (h : (Cl.decR s).2 ≠ 0) : (Cl.decR s).1 = [] := by
  unfold Cl.decR at h ⊢
  split
  · rfl
  · rename_i x hx
    rw [hx] at h
    simp only at h
    split
    · rfl
    · rename_i h4
      rw [if_neg h4] at h
      split
      · rfl
      · rename_i y hy
        rw [hy] at h
        simp only at h
        split
        · rename_i h5
          rw [if_pos h5] at h
          exact absurd rfl h
        · rfl
end Go.Proofs.Ytpabpcojiaklfaa
