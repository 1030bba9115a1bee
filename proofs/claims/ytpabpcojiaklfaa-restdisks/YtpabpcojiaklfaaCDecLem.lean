/-
  Columns: what is decoded so far, as lists. By the verifier.
-/
import Derived.Test.YtpabpcojiaklfaaCCut
namespace Go.Proofs.Ytpabpcojiaklfaa
open Go.RowKit
set_option linter.unusedVariables false

/-- The last number. -/
def Cl.lastD (p : Int) : List Int → Int
  | [] => p
  | x :: r => Cl.lastD x r
theorem Cl.lastD_snoc (x : Int) : ∀ (a : List Int) (p : Int), Cl.lastD p (a ++ [x]) = x
  | [], p => rfl
  | y :: r, p => Cl.lastD_snoc x r y

theorem Cl.decC_snoc : ∀ (k : Nat) (p : Int) (s : List Nat), Cl.decC (k + 1) p s = (Cl.decC k p s).bind fun y => (Cl.natG 6 true y.2).map fun x => (y.1 ++ [Cl.lastD p y.1 + Cl.zag x.1], x.2)
  | 0, p, s => by
    show ((Cl.natG 6 true s).bind fun x => (Cl.decC 0 (p + Cl.zag x.1) x.2).map fun y => ((p + Cl.zag x.1) :: y.1, y.2)) = _
    show ((Cl.natG 6 true s).bind fun x => some ([p + Cl.zag x.1], x.2)) = (Cl.natG 6 true s).map fun x => ([] ++ [p + Cl.zag x.1], x.2)
    cases Cl.natG 6 true s <;> rfl
  | k + 1, p, s => by
    show ((Cl.natG 6 true s).bind fun x => (Cl.decC (k + 1) (p + Cl.zag x.1) x.2).map fun y => ((p + Cl.zag x.1) :: y.1, y.2)) = ((Cl.natG 6 true s).bind fun x => (Cl.decC k (p + Cl.zag x.1) x.2).map fun y => ((p + Cl.zag x.1) :: y.1, y.2)).bind _
    cases h : Cl.natG 6 true s with
    | none => rfl
    | some x =>
      show (Cl.decC (k + 1) (p + Cl.zag x.1) x.2).map _ = ((Cl.decC k (p + Cl.zag x.1) x.2).map _).bind _
      rw [Cl.decC_snoc k (p + Cl.zag x.1) x.2]
      cases h2 : Cl.decC k (p + Cl.zag x.1) x.2 with
      | none => rfl
      | some y =>
        show ((Cl.natG 6 true y.2).map _).map _ = (Cl.natG 6 true y.2).map _
        cases Cl.natG 6 true y.2 <;> rfl

theorem Cl.decC_none (k : Nat) (p : Int) (s : List Nat) (h : Cl.decC k p s = none) : ∀ d, Cl.decC (k + d) p s = none
  | 0 => h
  | d + 1 => by
    show Cl.decC (k + d + 1) p s = none
    rw [Cl.decC_snoc, Cl.decC_none k p s h d]
    rfl
theorem Cl.decC_len : ∀ (k : Nat) (p : Int) (s : List Nat) (y : List Int × List Nat), Cl.decC k p s = some y → y.1.length = k
  | 0, p, s, y, h => by cases h; rfl
  | k + 1, p, s, y, h => by
    rw [Cl.decC_snoc] at h
    cases h2 : Cl.decC k p s with
    | none => rw [h2] at h; cases h
    | some z =>
      rw [h2] at h
      cases h3 : Cl.natG 6 true z.2 with
      | none => simp [h3] at h
      | some x =>
        simp [h3] at h
        rw [← h]
        simp [Cl.decC_len k p s z h2]

/-- The columns, one behind the other. -/
def Cl.decCols (n : Nat) : Nat → List Nat → Option (List (List Int) × List Nat)
  | 0, s => some ([], s)
  | c + 1, s => (Cl.decCols n c s).bind fun x => (Cl.decC n 0 x.2).map fun y => (x.1 ++ [y.1], y.2)
theorem Cl.decCols_none (n c : Nat) (s : List Nat) (h : Cl.decCols n c s = none) : ∀ d, Cl.decCols n (c + d) s = none
  | 0 => h
  | d + 1 => by
    show ((Cl.decCols n (c + d) s).bind _) = none
    rw [Cl.decCols_none n c s h d]
    rfl

/-- The events of six columns. -/
def Cl.evs (n : Nat) (cols : List (List Int)) : List Ev := (List.range n).map fun i => ⟨((cols[0]?).getD [])[i]?.getD 0, ((cols[1]?).getD [])[i]?.getD 0, ((cols[2]?).getD [])[i]?.getD 0, ((cols[3]?).getD [])[i]?.getD 0, ((cols[4]?).getD [])[i]?.getD 0, ((cols[5]?).getD [])[i]?.getD 0⟩
/-- What Decode answers. -/
def Cl.decR (s : List Nat) : List Ev × Nat :=
  match Cl.natG 6 true s with
  | none => ([], 1)
  | some x => if 4000 < x.1 then ([], 2) else
    match Cl.decCols x.1 6 x.2 with
    | none => ([], 1)
    | some y => if y.2 = [] ∧ (Cl.evs x.1 y.1).all Ev.ok = true then (Cl.evs x.1 y.1, 0) else ([], 1)

theorem Cl.natG_lt : ∀ (m : Nat) (f : Bool) (bs : List Nat) (x : Nat × List Nat), (∀ b ∈ bs, b < 256) → Cl.natG m f bs = some x → x.1 < 128 ^ m ∧ (∀ b ∈ x.2, b < 256) ∧ x.2.length < bs.length
  | 0, f, bs, x, _, h => by cases bs <;> cases h
  | m + 1, f, [], x, _, h => by cases h
  | m + 1, f, b :: r, x, hb, h => by
    have hb0 := hb b List.mem_cons_self
    have hr : ∀ c ∈ r, c < 256 := fun c hc => hb c (List.mem_cons_of_mem _ hc)
    have h' : (if b < 128 then (if b = 0 ∧ f = false then none else some (b, r)) else (Cl.natG m false r).map fun x => (b - 128 + 128 * x.1, x.2)) = some x := h
    split at h'
    · rename_i h1
      split at h'
      · cases h'
      · cases h'
        refine ⟨?_, hr, by simp⟩
        show b < 128 ^ (m + 1)
        have : 128 ^ 1 ≤ 128 ^ (m + 1) := Nat.pow_le_pow_right (by omega) (by omega)
        omega
    · rename_i h1
      cases h2 : Cl.natG m false r with
      | none => rw [h2] at h'; cases h'
      | some y =>
        rw [h2] at h'
        cases h'
        obtain ⟨i1, i2, i3⟩ := Cl.natG_lt m false r y hr h2
        refine ⟨?_, i2, by show y.2.length < r.length + 1; omega⟩
        show b - 128 + 128 * y.1 < 128 ^ (m + 1)
        rw [Nat.pow_succ]
        omega
end Go.Proofs.Ytpabpcojiaklfaa
