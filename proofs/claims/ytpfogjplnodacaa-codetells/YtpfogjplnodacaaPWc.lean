/-
  What is right with a command that passes. By the verifier.
-/
import Derived.Test.YtpfogjplnodacaaPCmds
namespace Go.Proofs.Ytpfogjplnodacaa
open Go.RowKit
set_option linter.unusedVariables false
theorem Pg.orW_zero {a b : Nat} (h : Pg.orW a b = 0) : a = 0 ∧ b = 0 := by
 unfold Pg.orW at h
 split at h
 · rename_i h1; exact ⟨h1, h⟩
 · rename_i h1; exact absurd h h1
theorem Xr.wc_ok {k : Int} {va : Option Int} {my mo pa : Bool} {wi we wa : Nat} (h : Pg.wc k va my mo pa wi we wa = 0) : (1 ≤ k ∧ k ≤ 7) ∧ (k ≤ 4 → ∃ z, va = some z) ∧ (k = 3 → my = true ∧ pa = true) ∧ (k = 2 → wi = 0) ∧ (k ≠ 3 → k ≠ 4 → we = 0) ∧ wa = 0 := by
 unfold Pg.wc at h
 split at h
 · cases h
 rename_i h1
 split at h
 · cases h
 rename_i h2
 split at h
 · cases h
 rename_i h3
 split at h
 · cases h
 split at h
 · cases h
 split at h
 · cases h
 rename_i h6
 obtain ⟨a1, a2⟩ := Pg.orW_zero h
 obtain ⟨a3, a4⟩ := Pg.orW_zero a2
 refine ⟨Decidable.of_not_not h1, fun hk => ?_, fun hk => ⟨?_, ?_⟩, fun hk => by rw [if_pos hk] at a1; exact a1, fun h3 h4 => by rw [if_neg (by omega)] at a3; exact a3, a4⟩
 · cases va with
   | none => exact absurd ⟨hk, rfl⟩ h2
   | some z => exact ⟨z, rfl⟩
 · cases my with
   | false => exact absurd ⟨hk, rfl⟩ h3
   | true => rfl
 · cases pa with
   | false => exact absurd ⟨hk, rfl⟩ h6
   | true => rfl
end Go.Proofs.Ytpfogjplnodacaa
