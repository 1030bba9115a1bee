/-
  Spans and times of yes and no, as plain functions on lists. By the verifier.
-/
import Derived.Test.YtkonaaldbeecoaaQMean
namespace Go.Proofs.Ytkonaaldbeecoaa
open Go.RowKit
set_option linter.unusedVariables false

/-- A list whose last one ends elsewhere. -/
def Wn.setLast (l : List (Nat × Nat)) (e : Nat) : List (Nat × Nat) := match l.getLast? with
  | some p => l.dropLast ++ [(p.1, e)]
  | none => l
theorem Wn.setLast_snoc (l : List (Nat × Nat)) (p : Nat × Nat) (e : Nat) : Wn.setLast (l ++ [p]) e = l ++ [(p.1, e)] := by
  simp [Wn.setLast]
/-- The spans of the first k. -/
def Wn.R (b : List Bool) : Nat → List (Nat × Nat)
  | 0 => []
  | t + 1 => if Qk.at_ b t then (if decide (0 < t) && Qk.at_ b (t - 1) then Wn.setLast (Wn.R b t) (t + 1) else Wn.R b t ++ [(t, t + 1)]) else Wn.R b t
theorem Wn.R_no {b : List Bool} {t : Nat} (h : Qk.at_ b t = false) : Wn.R b (t + 1) = Wn.R b t := by simp [Wn.R, h]
theorem Wn.R_begin {b : List Bool} {t : Nat} (h : Qk.at_ b t = true) (h0 : t = 0 ∨ Qk.at_ b (t - 1) = false) : Wn.R b (t + 1) = Wn.R b t ++ [(t, t + 1)] := by
  rcases h0 with rfl | h0
  · simp [Wn.R, h]
  · simp [Wn.R, h, h0]
theorem Wn.R_on {b : List Bool} {t : Nat} (h : Qk.at_ b t = true) (h0 : 0 < t) (h1 : Qk.at_ b (t - 1) = true) : Wn.R b (t + 1) = Wn.setLast (Wn.R b t) (t + 1) := by simp [Wn.R, h, h0, h1]
/-- A run that begins at t. -/
theorem Wn.R_run {b : List Bool} {t : Nat} (h0 : t = 0 ∨ Qk.at_ b (t - 1) = false) : ∀ (d : Nat), (∀ v, t ≤ v → v < t + d + 1 → Qk.at_ b v = true) → Wn.R b (t + d + 1) = Wn.R b t ++ [(t, t + d + 1)]
  | 0, h => Wn.R_begin (h t (Nat.le_refl _) (by omega)) h0
  | d + 1, h => by
    have ih := Wn.R_run h0 d (fun v h1 h2 => h v h1 (by omega))
    rw [show t + (d + 1) + 1 = (t + d + 1) + 1 by omega, Wn.R_on (h _ (by omega) (by omega)) (by omega) (h _ (by omega) (by omega)), ih, Wn.setLast_snoc]
/-- Each span has a time, and ends at the last one at most; the last one has those behind the others. -/
theorem Wn.R_last {b : List Bool} : ∀ {t : Nat}, 0 < t → Qk.at_ b (t - 1) = true → ∃ l p, Wn.R b t = l ++ [p] ∧ p.1 < t ∧ p.2 = t
  | 0, h, _ => by omega
  | t + 1, _, h => by
    have h' : Qk.at_ b t = true := h
    by_cases h0 : t = 0 ∨ Qk.at_ b (t - 1) = false
    · exact ⟨_, _, Wn.R_begin h' h0, by simp, rfl⟩
    · have h1 : 0 < t := by omega
      have h2 : Qk.at_ b (t - 1) = true := by
        cases h3 : Qk.at_ b (t - 1)
        · exact absurd (Or.inr h3) h0
        · rfl
      obtain ⟨l, p, h3, h4, h5⟩ := Wn.R_last h1 h2
      exact ⟨l, (p.1, t + 1), by rw [Wn.R_on h' h1 h2, h3, Wn.setLast_snoc], by simp; omega, rfl⟩
theorem Wn.R_length (b : List Bool) : ∀ t, (Wn.R b t).length ≤ t
  | 0 => Nat.le_refl _
  | t + 1 => by
    have ih := Wn.R_length b t
    cases h : Qk.at_ b t
    · rw [Wn.R_no h]; omega
    · by_cases h0 : t = 0 ∨ Qk.at_ b (t - 1) = false
      · rw [Wn.R_begin h h0]; simp; omega
      · have h1 : 0 < t := by omega
        have h2 : Qk.at_ b (t - 1) = true := by
          cases h3 : Qk.at_ b (t - 1)
          · exact absurd (Or.inr h3) h0
          · rfl
        obtain ⟨l, p, h3, h4, h5⟩ := Wn.R_last h1 h2
        rw [Wn.R_on h h1 h2, h3, Wn.setLast_snoc]
        rw [h3] at ih
        simp at ih ⊢
        omega
/-- How a step of the spans goes, in three ways. -/
theorem Wn.R_ind {P : Nat → List (Nat × Nat) → Prop} (b : List Bool) (h0 : P 0 [])
    (hno : ∀ t, Qk.at_ b t = false → P t (Wn.R b t) → P (t + 1) (Wn.R b t))
    (hbe : ∀ t, Qk.at_ b t = true → (t = 0 ∨ Qk.at_ b (t - 1) = false) → P t (Wn.R b t) → P (t + 1) (Wn.R b t ++ [(t, t + 1)]))
    (hon : ∀ t l a, Qk.at_ b t = true → a < t → Wn.R b t = l ++ [(a, t)] → P t (l ++ [(a, t)]) → P (t + 1) (l ++ [(a, t + 1)])) : ∀ t, P t (Wn.R b t)
  | 0 => h0
  | t + 1 => by
    have ih := Wn.R_ind b h0 hno hbe hon t
    cases h : Qk.at_ b t
    · rw [Wn.R_no h]; exact hno t h ih
    · by_cases h1 : t = 0 ∨ Qk.at_ b (t - 1) = false
      · rw [Wn.R_begin h h1]; exact hbe t h h1 ih
      · have h2 : 0 < t := by omega
        have h3 : Qk.at_ b (t - 1) = true := by
          cases h4 : Qk.at_ b (t - 1)
          · exact absurd (Or.inr h4) h1
          · rfl
        obtain ⟨l, ⟨a, e⟩, h4, h5, h6⟩ := Wn.R_last h2 h3
        obtain rfl : e = t := h6
        rw [Wn.R_on h h2 h3, h4, Wn.setLast_snoc]
        exact hon e l a h h5 h4 (h4 ▸ ih)

/-! ### Times -/
/-- Numbers from lo to less than hi. -/
def Wn.upTo (lo hi : Int) : List Int := (List.range (hi - lo).toNat).map fun i => lo + ((i : Nat) : Int)
theorem Wn.upTo_nil {lo hi : Int} (h : hi ≤ lo) : Wn.upTo lo hi = [] := by
  unfold Wn.upTo
  rw [show (hi - lo).toNat = 0 by omega]
  rfl
theorem Wn.upTo_snoc {lo hi : Int} (h : lo ≤ hi) : Wn.upTo lo (hi + 1) = Wn.upTo lo hi ++ [hi] := by
  unfold Wn.upTo
  rw [show (hi + 1 - lo).toNat = (hi - lo).toNat + 1 by omega, List.range_succ, List.map_append]
  simp
  omega
theorem Wn.upTo_length (lo hi : Int) : (Wn.upTo lo hi).length = (hi - lo).toNat := by simp [Wn.upTo]
/-- The times of a span, from f to less than t. -/
def Wn.cut (f t : Int) (p : Nat × Nat) : List Int := Wn.upTo (max (p.1 : Nat) f) (min (p.2 : Nat) t)
theorem Wn.cut_more (f t : Int) (a e : Nat) (h : a ≤ e) : Wn.cut f t (a, e + 1) = Wn.cut f t (a, e) ++ if Ix.rng f t (e : Nat) then [((e : Nat) : Int)] else [] := by
  unfold Wn.cut
  rcases Int.lt_or_le (e : Int) t with h1 | h1
  · have e1 : min ((e + 1 : Nat) : Int) t = (e : Int) + 1 := by omega
    have e2 : min ((e : Nat) : Int) t = (e : Int) := by omega
    rw [e1, e2]
    rcases Int.lt_or_le (e : Int) f with h2 | h2
    · rw [Wn.upTo_nil (by omega), Wn.upTo_nil (by omega), if_neg (by simp [Ix.rng]; omega)]
      rfl
    · rw [Wn.upTo_snoc (by omega), if_pos (by simp [Ix.rng]; omega)]
  · have e1 : min ((e + 1 : Nat) : Int) t = t := by omega
    have e2 : min ((e : Nat) : Int) t = t := by omega
    rw [e1, e2, if_neg (by simp [Ix.rng]; omega), List.append_nil]
theorem Wn.cut_none (f t : Int) (a : Nat) : Wn.cut f t (a, a) = [] := Wn.upTo_nil (by omega)
theorem Wn.cut_length (f t : Int) (p : Nat × Nat) : (Wn.cut f t p).length ≤ p.2 := by
  unfold Wn.cut
  rw [Wn.upTo_length]
  omega
def Wn.cuts (f t : Int) (l : List (Nat × Nat)) : List Int := l.flatMap (Wn.cut f t)
theorem Wn.cuts_snoc (f t : Int) (l : List (Nat × Nat)) (p : Nat × Nat) : Wn.cuts f t (l ++ [p]) = Wn.cuts f t l ++ Wn.cut f t p := by simp [Wn.cuts]
/-- The times at which it holds, of the first k. -/
def Wn.T (b : List Bool) (f t : Int) (k : Nat) : List Int := ((List.range k).filter fun i => Qk.at_ b i && Ix.rng f t (i : Nat)).map fun i => ((i : Nat) : Int)
theorem Wn.T_succ (b : List Bool) (f t : Int) (k : Nat) : Wn.T b f t (k + 1) = Wn.T b f t k ++ if Qk.at_ b k && Ix.rng f t (k : Nat) then [((k : Nat) : Int)] else [] := by
  unfold Wn.T
  rw [List.range_succ, List.filter_append, List.map_append]
  by_cases h : (Qk.at_ b k && Ix.rng f t (k : Nat)) = true
  · simp [h]
  · simp [h]
theorem Wn.cuts_R (b : List Bool) (f t : Int) (k : Nat) : Wn.cuts f t (Wn.R b k) = Wn.T b f t k :=
  Wn.R_ind (P := fun k l => Wn.cuts f t l = Wn.T b f t k) b rfl
    (fun k h ih => by rw [Wn.T_succ, h, ih]; simp)
    (fun k h h0 ih => by rw [Wn.T_succ, h, Wn.cuts_snoc, ih, Wn.cut_more f t k k (Nat.le_refl _), Wn.cut_none]; simp)
    (fun k l a h hk hR ih => by
      rw [Wn.cuts_snoc] at ih
      rw [Wn.T_succ, h, Wn.cuts_snoc, Wn.cut_more f t a k (by omega), ← List.append_assoc, ih]
      simp) k
theorem Wn.T_length (b : List Bool) (f t : Int) (k : Nat) : (Wn.T b f t k).length ≤ k := by
  unfold Wn.T
  rw [List.length_map]
  exact Nat.le_trans (List.length_filter_le _ _) (by simp)

/-! ### The first one -/
/-- The first time of the first k. -/
def Wn.first (b : List Bool) (k : Nat) : Option Nat := (List.range k).find? (fun i => Qk.at_ b i)
theorem Wn.R_head (b : List Bool) (k : Nat) : (Wn.R b k).head?.map (fun p => p.1) = Wn.first b k :=
  Wn.R_ind (P := fun k l => l.head?.map (fun p => p.1) = Wn.first b k) b rfl
    (fun k h ih => by
      unfold Wn.first at ih ⊢
      rw [List.range_succ, List.find?_append, ih]
      cases (List.range k).find? _ <;> simp [h])
    (fun k h h0 ih => by
      unfold Wn.first at ih ⊢
      rw [List.range_succ, List.find?_append, ← ih]
      cases Wn.R b k with
      | nil => simp [h]
      | cons p r => simp)
    (fun k l a h hk hR ih => by
      unfold Wn.first at ih ⊢
      rw [List.range_succ, List.find?_append, ← ih]
      cases l with
      | nil => simp
      | cons p r => simp) k
/-- All spans are spans. -/
def Wn.ok (p : Nat × Nat) : Prop := p.1 < p.2 ∧ p.2 ≤ 4000
theorem Wn.R_ok (b : List Bool) (k : Nat) : ∀ p ∈ Wn.R b k, p.1 < p.2 ∧ p.2 ≤ k :=
  Wn.R_ind (P := fun k l => ∀ p ∈ l, p.1 < p.2 ∧ p.2 ≤ k) b (fun p h => by cases h)
    (fun k h ih p hp => by have := ih p hp; omega)
    (fun k h h0 ih p hp => by
      rcases List.mem_append.1 hp with hp | hp
      · have := ih p hp; omega
      · simp at hp; subst hp; simp)
    (fun k l a h hk hR ih p hp => by
      rcases List.mem_append.1 hp with hp | hp
      · have := ih p (List.mem_append_left _ hp); omega
      · simp at hp; subst hp; simp; omega) k
end Go.Proofs.Ytkonaaldbeecoaa
