/-
  Contracts of the leaves of package index and of the document's own. By the verifier.
-/
import Derived.Test.YtfhlnelgnnkeoaaGreatDoorIBase
namespace Go.Proofs.YtfhlnelgnnkeoaaGreatDoor
open Go.RowKit
set_option linter.unusedVariables false

set_option maxHeartbeats 400000 in
theorem wrongIn_any (ad : Option Addr) (n cap : Nat) (kind : Int) (w : World) (hn : n ≤ 35184372088832) :
    Calls Tryz.prog 103 #[.slice ad n cap, .int .i64 kind] w fun e w' => e = .returned (.int .i64 (Ix.chk n kind : Nat)) ∧ w' = w := by
  by_cases h0 : 4000 < n
  · have hh : Ix.chk n kind = 2 := by simp [Ix.chk, h0]
    rw [hh]; clear hh
    have h0' : (n : Int) > 4000 := by omega
    go_enter Tryz.func103, Tryz.ntmps103
    go_wp2
    go_ret
    exact ⟨rfl, rfl⟩
  · have h0' : ¬ (n : Int) > 4000 := by omega
    by_cases h1 : kind < 1
    · have hh : Ix.chk n kind = 7 := by simp [Ix.chk, h0, h1]
      rw [hh]; clear hh h0
      go_enter Tryz.func103, Tryz.ntmps103
      go_wp2
      go_ret
      exact ⟨rfl, rfl⟩
    · by_cases h2 : kind > 7
      · have hh : Ix.chk n kind = 7 := by unfold Ix.chk; rw [if_neg h0, if_pos (Or.inr h2)]
        rw [hh]; clear hh h0
        go_enter Tryz.func103, Tryz.ntmps103
        go_wp2
        go_ret
        exact ⟨rfl, rfl⟩
      · have hh : Ix.chk n kind = 0 := by unfold Ix.chk; rw [if_neg h0, if_neg (by omega)]
        rw [hh]; clear hh h0
        go_enter Tryz.func103, Tryz.ntmps103
        go_wp2
        go_ret
        exact ⟨rfl, rfl⟩

def Ix.btw (n a b : Int) : Bool := decide (a ≤ n ∧ n ≤ b)
set_option maxHeartbeats 400000 in
theorem ibetween_any (n a b : Int) (w : World) :
    Calls Tryz.prog 41 #[.int .i64 n, .int .i64 a, .int .i64 b] w fun e w' => e = .returned (.bool (Ix.btw n a b)) ∧ w' = w := by
  by_cases h1 : a ≤ n
  · by_cases h2 : n ≤ b
    · have hh : Ix.btw n a b = true := by simp [Ix.btw, h1, h2]
      rw [hh]; clear hh
      go_enter Tryz.func41, Tryz.ntmps41
      go_wp2
      go_ret
      exact ⟨rfl, rfl⟩
    · have hh : Ix.btw n a b = false := by simp [Ix.btw, h2]
      rw [hh]; clear hh
      go_enter Tryz.func41, Tryz.ntmps41
      go_wp2
      go_ret
      exact ⟨rfl, rfl⟩
  · have hh : Ix.btw n a b = false := by simp [Ix.btw, h1]
    rw [hh]; clear hh
    go_enter Tryz.func41, Tryz.ntmps41
    go_wp2
    go_ret
    exact ⟨rfl, rfl⟩

set_option maxHeartbeats 400000 in
theorem about_any (e : Ev) (w : World) :
    Calls Tryz.prog 115 #[e.agg] w fun r w' => r = .returned (.int .i64 (Ix.about e)) ∧ Below w.heap.size w w' := by
  show Calls Tryz.prog 115 #[.agg #[.int .i64 e.n0, .int .i64 e.n1, .int .i64 e.n2, .int .i64 e.n3, .int .i64 e.n4, .int .i64 e.n5]] w _
  by_cases h1 : e.n0 = 1
  · have hh : Ix.about e = e.n2 := by simp [Ix.about, h1]
    rw [hh]; clear hh
    go_enter Tryz.func115, Tryz.ntmps115
    go_wp2
    go_ret
    exact ⟨rfl, (Below.refl _ _).alloc (Nat.le_refl _) _⟩
  · by_cases h2 : e.n0 = 2
    · have hh : Ix.about e = e.n3 := by simp [Ix.about, h2]
      rw [hh]; clear hh
      go_enter Tryz.func115, Tryz.ntmps115
      go_wp2
      go_ret
      exact ⟨rfl, (Below.refl _ _).alloc (Nat.le_refl _) _⟩
    · by_cases h3 : e.n0 = 5
      · have hh : Ix.about e = e.n3 := by simp [Ix.about, h3]
        rw [hh]; clear hh
        go_enter Tryz.func115, Tryz.ntmps115
        go_wp2
        go_ret
        exact ⟨rfl, (Below.refl _ _).alloc (Nat.le_refl _) _⟩
      · have hh : Ix.about e = e.n5 := by simp [Ix.about, h1, h2, h3]
        rw [hh]; clear hh
        go_enter Tryz.func115, Tryz.ntmps115
        go_wp2
        go_ret
        exact ⟨rfl, (Below.refl _ _).alloc (Nat.le_refl _) _⟩

set_option maxHeartbeats 400000 in
theorem AboutOf_any (e : Ev) (w : World) :
    Calls Tryz.prog 75 #[e.agg] w fun r w' => r = .returned (.int .i64 (Ix.about e)) ∧ Below w.heap.size w w' := by
  show Calls Tryz.prog 75 #[.agg #[.int .i64 e.n0, .int .i64 e.n1, .int .i64 e.n2, .int .i64 e.n3, .int .i64 e.n4, .int .i64 e.n5]] w _
  by_cases h1 : e.n0 = 1
  · have hh : Ix.about e = e.n2 := by simp [Ix.about, h1]
    rw [hh]; clear hh
    go_enter Tryz.func75, Tryz.ntmps75
    go_wp2
    go_ret
    exact ⟨rfl, (Below.refl _ _).alloc (Nat.le_refl _) _⟩
  · by_cases h2 : e.n0 = 2
    · have hh : Ix.about e = e.n3 := by simp [Ix.about, h2]
      rw [hh]; clear hh
      go_enter Tryz.func75, Tryz.ntmps75
      go_wp2
      go_ret
      exact ⟨rfl, (Below.refl _ _).alloc (Nat.le_refl _) _⟩
    · by_cases h3 : e.n0 = 5
      · have hh : Ix.about e = e.n3 := by simp [Ix.about, h3]
        rw [hh]; clear hh
        go_enter Tryz.func75, Tryz.ntmps75
        go_wp2
        go_ret
        exact ⟨rfl, (Below.refl _ _).alloc (Nat.le_refl _) _⟩
      · have hh : Ix.about e = e.n5 := by simp [Ix.about, h1, h2, h3]
        rw [hh]; clear hh
        go_enter Tryz.func75, Tryz.ntmps75
        go_wp2
        go_ret
        exact ⟨rfl, (Below.refl _ _).alloc (Nat.le_refl _) _⟩

set_option maxHeartbeats 400000 in
theorem Fits_any (e : Ev) (kind n : Int) (w : World) :
    Calls Tryz.prog 51 #[e.agg, .int .i64 kind, .int .i64 n] w fun r w' => r = .returned (.bool (Ix.fits kind n e)) ∧ Below w.heap.size w w' := by
  show Calls Tryz.prog 51 #[.agg #[.int .i64 e.n0, .int .i64 e.n1, .int .i64 e.n2, .int .i64 e.n3, .int .i64 e.n4, .int .i64 e.n5], .int .i64 kind, .int .i64 n] w _
  by_cases h1 : e.n0 = kind
  · by_cases h2 : n = -1
    · have hh : Ix.fits kind n e = true := by simp [Ix.fits, h1, h2]
      rw [hh]; clear hh
      have h1' : (e.n0 == kind) = true := by simpa using h1
      have h2' : (n == -1) = true := by simpa using h2
      clear h1 h2
      go_enter Tryz.func51, Tryz.ntmps51
      go_wp2_with fail
      go_ret
      exact ⟨rfl, (Below.refl _ _).alloc (Nat.le_refl _) _⟩
    · have HH := hide (show Ix.fits kind n e = (n == Ix.about e) by simp [Ix.fits, h1, h2]; rfl)
      have h1' : (e.n0 == kind) = true := by simpa using h1
      have h2' : (n == -1) = false := by simpa using h2
      clear h1 h2
      go_enter Tryz.func51, Tryz.ntmps51
      go_wp2_with fail
      refine (AboutOf_any e _).mono ?_
      rintro r w' ⟨rfl, hb⟩
      have HB := hide (below_two hb)
      clear hb
      go_wp2_with fail
      all_goals
        go_ret
        exact ⟨by rw [unhide HH]; simp_all, unhide HB⟩
  · have hh : Ix.fits kind n e = false := by simp [Ix.fits, h1]
    rw [hh]; clear hh
    have h1' : (e.n0 == kind) = false := by simpa using h1
    clear h1
    go_enter Tryz.func51, Tryz.ntmps51
    go_wp2_with fail
    go_ret
    exact ⟨rfl, (Below.refl _ _).alloc (Nat.le_refl _) _⟩
end Go.Proofs.YtfhlnelgnnkeoaaGreatDoor
