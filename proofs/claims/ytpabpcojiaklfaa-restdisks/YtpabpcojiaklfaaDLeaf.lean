/-
  Contracts of the leaves of package disk. By the verifier.
-/
import Derived.Test.YtpabpcojiaklfaaDBase
namespace Go.Proofs.Ytpabpcojiaklfaa
open Go.RowKit
set_option linter.unusedVariables false

def Dk.cnt (n : Int) : Bool := decide (1 ≤ n ∧ n ≤ 600)

set_option maxHeartbeats 400000 in
theorem isCount_any (n : Int) (w : World) :
    Calls Try.prog 56 #[.int .i64 n] w fun e w' => e = .returned (.bool (Dk.cnt n)) ∧ w' = w := by
  by_cases h1 : 1 ≤ n
  · by_cases h2 : n ≤ 600
    · have hh : Dk.cnt n = true := by simp [Dk.cnt, h1, h2]
      rw [hh]; clear hh
      go_enter Try.func56, Try.ntmps56
      go_wp2
      go_ret
      exact ⟨rfl, rfl⟩
    · have hh : Dk.cnt n = false := by simp [Dk.cnt]; omega
      rw [hh]; clear hh
      go_enter Try.func56, Try.ntmps56
      go_wp2
      go_ret
      exact ⟨rfl, rfl⟩
  · have hh : Dk.cnt n = false := by simp [Dk.cnt]; omega
    rw [hh]; clear hh
    go_enter Try.func56, Try.ntmps56
    go_wp2
    go_ret
    exact ⟨rfl, rfl⟩

set_option maxHeartbeats 400000 in
theorem between_any (n a b : Int) (w : World) :
    Calls Try.prog 37 #[.int .i64 n, .int .i64 a, .int .i64 b] w fun e w' => e = .returned (.bool (decide (a ≤ n ∧ n ≤ b))) ∧ w' = w := by
  by_cases h1 : a ≤ n
  · by_cases h2 : n ≤ b
    · have hh : decide (a ≤ n ∧ n ≤ b) = true := by simp [h1, h2]
      rw [hh]; clear hh
      go_enter Try.func37, Try.ntmps37
      go_wp2
      go_ret
      exact ⟨rfl, rfl⟩
    · have hh : decide (a ≤ n ∧ n ≤ b) = false := by simp [h2]
      rw [hh]; clear hh
      go_enter Try.func37, Try.ntmps37
      go_wp2
      go_ret
      exact ⟨rfl, rfl⟩
  · have hh : decide (a ≤ n ∧ n ≤ b) = false := by simp [h1]
    rw [hh]; clear hh
    go_enter Try.func37, Try.ntmps37
    go_wp2
    go_ret
    exact ⟨rfl, rfl⟩

set_option maxHeartbeats 400000 in
theorem isSector_any (s : ByteArray) (w : World) (hs : s.size ≤ maxLen) :
    Calls Try.prog 65 #[.string s] w fun e w' => e = .returned (.bool (Dk.is32 s)) ∧ w' = w := by
  unfold maxLen at hs
  by_cases h : s.size = 32
  · have hh : Dk.is32 s = true := by simp [Dk.is32, h]
    rw [hh]; clear hh
    have h' : ((s.size : Int) == 32) = true := by rw [beq_iff_eq]; omega
    clear h
    go_enter Try.func65, Try.ntmps65
    go_wp2
    go_ret
    exact ⟨rfl, rfl⟩
  · have hh : Dk.is32 s = false := by simp [Dk.is32, h]
    rw [hh]; clear hh
    have h' : ((s.size : Int) == 32) = false := by rw [beq_eq_false_iff_ne]; omega
    clear h
    go_enter Try.func65, Try.ntmps65
    go_wp2
    go_ret
    exact ⟨rfl, rfl⟩

set_option maxHeartbeats 400000 in
theorem notSector_any (s : ByteArray) (w : World) (hs : s.size ≤ maxLen) :
    Calls Try.prog 64 #[.string s] w fun e w' => e = .returned (.bool (!Dk.is32 s)) ∧ w' = w := by
  go_enter Try.func64, Try.ntmps64
  go_wp2_with fail
  refine (isSector_any _ _ hs).mono ?_
  rintro e w' ⟨rfl, rfl⟩
  go_wp2_with fail
  go_ret
  exact ⟨rfl, rfl⟩

set_option maxHeartbeats 400000 in
theorem flushAll_any (i : Int) (w : World) :
    Calls Try.prog 55 #[.int .i64 i] w fun e w' => e = .returned (.bool true) ∧ w' = w := by
  go_enter Try.func55, Try.ntmps55
  go_wp2
  go_ret
  exact ⟨rfl, rfl⟩

set_option maxHeartbeats 400000 in
theorem has_any (ka : Option Addr) (n kc : Nat) (wa : Option Addr) (m wc : Nat) (i : Int) (w : World) :
    Calls Try.prog 62 #[.agg #[.slice ka n kc, .slice wa m wc], .int .i64 i] w fun e w' => e = .returned (.bool (Dk.inn n i)) ∧ Below w.heap.size w w' := by
  by_cases h1 : 0 ≤ i
  · by_cases h2 : i < n
    · have hh : Dk.inn n i = true := by simp [Dk.inn, h1, h2]
      rw [hh]; clear hh
      go_enter Try.func62, Try.ntmps62
      go_wp2
      go_ret
      exact ⟨rfl, (Below.refl _ _).alloc (Nat.le_refl _) _⟩
    · have hh : Dk.inn n i = false := by simp [Dk.inn]; omega
      rw [hh]; clear hh
      go_enter Try.func62, Try.ntmps62
      go_wp2
      go_ret
      exact ⟨rfl, (Below.refl _ _).alloc (Nat.le_refl _) _⟩
  · have hh : Dk.inn n i = false := by simp [Dk.inn]; omega
    rw [hh]; clear hh
    go_enter Try.func62, Try.ntmps62
    go_wp2
    go_ret
    exact ⟨rfl, (Below.refl _ _).alloc (Nat.le_refl _) _⟩

set_option maxHeartbeats 400000 in
theorem checkWritten_any (ka : Option Addr) (n kc : Nat) (wa : Option Addr) (m wc : Nat) (x : Int × ByteArray) (w : World) (hs : x.2.size ≤ maxLen) :
    Calls Try.prog 59 #[.agg #[.slice ka n kc, .slice wa m wc], .agg #[.int .i64 x.1, .string x.2]] w fun e w' => e = .returned (.int .i64 (Dk.chkW n x : Nat)) ∧ Below w.heap.size w w' := by
  cases hi : Dk.inn n x.1
  · have hR : Dk.chkW n x = 5 := by unfold Dk.chkW; rw [hi]; rfl
    rw [hR]; clear hR
    have HI := hide hi
    clear hi
    go_enter Try.func59, Try.ntmps59
    go_wp2_with fail
    refine (has_any _ _ _ _ _ _ _ _).mono ?_
    rintro e w' ⟨rfl, hb⟩
    rw [unhide HI]
    have HB := hide hb
    clear hb
    go_wp2_with fail
    go_ret
    exact ⟨rfl, below_two (below_two (unhide HB))⟩
  · cases h3 : Dk.is32 x.2
    · have hR : Dk.chkW n x = 1 := by unfold Dk.chkW; rw [hi, h3]; rfl
      rw [hR]; clear hR
      have HI := hide hi
      have H3 := hide h3
      clear hi h3
      go_enter Try.func59, Try.ntmps59
      go_wp2_with fail
      refine (has_any _ _ _ _ _ _ _ _).mono ?_
      rintro e w' ⟨rfl, hb⟩
      rw [unhide HI]
      obtain ⟨hc, hf⟩ := bcell hb
      have hz := hb.size
      have HB := hide hb
      clear hb
      go_wp2_with fail
      refine (isSector_any _ _ hs).mono ?_
      rintro e w'' ⟨rfl, rfl⟩
      rw [unhide H3]
      go_wp2_with fail
      go_ret
      exact ⟨rfl, below_two (below_two (unhide HB))⟩
    · have hR : Dk.chkW n x = 0 := by unfold Dk.chkW; rw [hi, h3]; rfl
      rw [hR]; clear hR
      have HI := hide hi
      have H3 := hide h3
      clear hi h3
      go_enter Try.func59, Try.ntmps59
      go_wp2_with fail
      refine (has_any _ _ _ _ _ _ _ _).mono ?_
      rintro e w' ⟨rfl, hb⟩
      rw [unhide HI]
      obtain ⟨hc, hf⟩ := bcell hb
      have hz := hb.size
      have HB := hide hb
      clear hb
      go_wp2_with fail
      refine (isSector_any _ _ hs).mono ?_
      rintro e w'' ⟨rfl, rfl⟩
      rw [unhide H3]
      go_wp2_with fail
      go_ret
      exact ⟨rfl, below_two (below_two (unhide HB))⟩
end Go.Proofs.Ytpabpcojiaklfaa
