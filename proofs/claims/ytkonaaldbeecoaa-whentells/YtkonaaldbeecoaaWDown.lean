/-
  Times and the first one, gone through from the end: lists alone. By the verifier.
-/
import Derived.Test.YtkonaaldbeecoaaWBase
namespace Go.Proofs.Ytkonaaldbeecoaa
open Go.RowKit
set_option linter.unusedVariables false

/-- The times from j on. -/
def Wn.Tj (b : List Bool) (f t : Int) (n j : Nat) : List Int := ((List.range' j (n - j)).filter fun i => Qk.at_ b i && Ix.rng f t (i : Nat)).map fun i => ((i : Nat) : Int)
def Wn.Fj (b : List Bool) (n j : Nat) : Option Nat := (List.range' j (n - j)).find? (fun i => Qk.at_ b i)
theorem Wn.Tj_zero (b : List Bool) (f t : Int) (n : Nat) : Wn.Tj b f t n 0 = Wn.T b f t n := by unfold Wn.Tj Wn.T; rw [List.range_eq_range', Nat.sub_zero]
theorem Wn.Fj_zero (b : List Bool) (n : Nat) : Wn.Fj b n 0 = Wn.first b n := by unfold Wn.Fj Wn.first; rw [List.range_eq_range', Nat.sub_zero]
theorem Wn.Tj_end (b : List Bool) (f t : Int) (n : Nat) : Wn.Tj b f t n n = [] := by unfold Wn.Tj; rw [Nat.sub_self]; rfl
theorem Wn.Fj_end (b : List Bool) (n : Nat) : Wn.Fj b n n = none := by unfold Wn.Fj; rw [Nat.sub_self]; rfl
theorem Wn.range_at {n j : Nat} (h : j < n) : List.range' j (n - j) = j :: List.range' (j + 1) (n - (j + 1)) := by
  rw [show n - j = (n - (j + 1)) + 1 by omega, List.range'_succ]
theorem Wn.Tj_step (b : List Bool) (f t : Int) {n j : Nat} (h : j < n) : Wn.Tj b f t n j = (if Qk.at_ b j && Ix.rng f t (j : Nat) then [((j : Nat) : Int)] else []) ++ Wn.Tj b f t n (j + 1) := by
  unfold Wn.Tj
  rw [Wn.range_at h]
  by_cases hc : (Qk.at_ b j && Ix.rng f t (j : Nat)) = true
  · rw [List.filter_cons, if_pos hc, if_pos hc]; rfl
  · rw [List.filter_cons, if_neg hc, if_neg hc]; rfl
theorem Wn.Fj_step (b : List Bool) {n j : Nat} (h : j < n) : Wn.Fj b n j = if Qk.at_ b j then some j else Wn.Fj b n (j + 1) := by
  unfold Wn.Fj
  rw [Wn.range_at h, List.find?_cons]
  cases Qk.at_ b j <;> rfl
theorem Wn.Tj_length (b : List Bool) (f t : Int) (n j : Nat) : (Wn.Tj b f t n j).length ≤ n := by
  unfold Wn.Tj
  rw [List.length_map]
  exact Nat.le_trans (List.length_filter_le _ _) (by simp)
theorem Wn.Tj_mem {b : List Bool} {f t : Int} {n j : Nat} {y : Int} (h : y ∈ Wn.Tj b f t n j) : 0 ≤ y ∧ y < n := by
  unfold Wn.Tj at h
  obtain ⟨i, hi, rfl⟩ := List.mem_map.1 h
  have := List.mem_range'_1.1 (List.mem_filter.1 hi).1
  omega
def Wn.fv (o : Option Nat) : Int := (o.map fun i => ((i : Nat) : Int)).getD 0
theorem Wn.fst_first (b : List Bool) (n : Nat) : (((Wn.R b n).head?.map fun p => ((p.1 : Nat) : Int))).getD 0 = Wn.fv (Wn.first b n) := by
  rw [← Wn.R_head]
  unfold Wn.fv
  cases (Wn.R b n).head? <;> rfl
theorem Wn.is_first (b : List Bool) (n : Nat) : decide (0 < (Wn.R b n).length) = (Wn.first b n).isSome := by
  rw [← Wn.R_head]
  cases Wn.R b n with
  | nil => rfl
  | cons p r => simp
end Go.Proofs.Ytkonaaldbeecoaa
