/-
  Contracts of the leaves of package token: isLetter, isDigit, the two literals, behind. By the verifier.
-/
import Derived.Test.YtfhlnelgnnkeoaaGreatDoorDBase
import Derived.Test.YtfhlnelgnnkeoaaGreatDoorPlain
import Derived.WalkKit
import Derived.WalkSpells
import Derived.WalkLawsBesides
namespace Go.Proofs.YtfhlnelgnnkeoaaGreatDoor
open Go.RowKit
set_option linter.unusedVariables false

set_option maxHeartbeats 400000 in
theorem isLetter_any (c : Int) (w : World) :
    Calls Tryz.prog 79 #[.int .u8 c] w fun e w' => e = .returned (.bool (Tk.isL c)) ∧ w' = w := by
  by_cases h : 97 ≤ c ∧ c ≤ 122
  · obtain ⟨h1, h2⟩ := h
    have hh : Tk.isL c = true := by simp [Tk.isL, h1, h2]
    rw [hh]; clear hh
    go_enter Tryz.func79, Tryz.ntmps79
    go_wp2
    go_ret
    exact ⟨rfl, rfl⟩
  · have hh : Tk.isL c = false := by simp [Tk.isL]; omega
    rw [hh]; clear hh
    by_cases h1 : 97 ≤ c
    · have h2 : ¬ c ≤ 122 := by omega
      clear h
      go_enter Tryz.func79, Tryz.ntmps79
      go_wp2
      go_ret
      exact ⟨rfl, rfl⟩
    · clear h
      go_enter Tryz.func79, Tryz.ntmps79
      go_wp2
      go_ret
      exact ⟨rfl, rfl⟩

set_option maxHeartbeats 400000 in
theorem isDigit_any (c : Int) (w : World) :
    Calls Tryz.prog 81 #[.int .u8 c] w fun e w' => e = .returned (.bool (Tk.isD c)) ∧ w' = w := by
  by_cases h : 48 ≤ c ∧ c ≤ 57
  · obtain ⟨h1, h2⟩ := h
    have hh : Tk.isD c = true := by simp [Tk.isD, h1, h2]
    rw [hh]; clear hh
    go_enter Tryz.func81, Tryz.ntmps81
    go_wp2
    go_ret
    exact ⟨rfl, rfl⟩
  · have hh : Tk.isD c = false := by simp [Tk.isD]; omega
    rw [hh]; clear hh
    by_cases h1 : 48 ≤ c
    · have h2 : ¬ c ≤ 57 := by omega
      clear h
      go_enter Tryz.func81, Tryz.ntmps81
      go_wp2
      go_ret
      exact ⟨rfl, rfl⟩
    · clear h
      go_enter Tryz.func81, Tryz.ntmps81
      go_wp2
      go_ret
      exact ⟨rfl, rfl⟩

set_option maxHeartbeats 400000 in
theorem notNl_any (c : Int) (w : World) :
    Calls Tryz.prog 78 #[.int .u8 c] w fun e w' => e = .returned (.bool (Tk.notNl c)) ∧ w' = w := by
  go_enter Tryz.func78, Tryz.ntmps78
  go_wp2
  go_ret
  exact ⟨rfl, rfl⟩

set_option maxHeartbeats 400000 in
theorem isLD_any (c : Int) (w : World) :
    Calls Tryz.prog 98 #[.int .u8 c] w fun e w' => e = .returned (.bool (Tk.isLD c)) ∧ w' = w := by
  cases h : Tk.isL c
  · have hh : Tk.isLD c = Tk.isD c := by simp [Tk.isLD, h]
    rw [hh]; clear hh
    have H : Hid (Tk.isL c = false) := h
    clear h
    go_enter Tryz.func98, Tryz.ntmps98
    go_wp2_with fail
    refine (isLetter_any _ _).mono ?_
    rintro e w' ⟨rfl, rfl⟩
    rw [H.out]
    go_wp2_with fail
    refine (isDigit_any _ _).mono ?_
    rintro e w' ⟨rfl, rfl⟩
    go_wp2_with fail
    go_ret
    exact ⟨rfl, rfl⟩
  · have hh : Tk.isLD c = true := by simp [Tk.isLD, h]
    rw [hh]; clear hh
    have H : Hid (Tk.isL c = true) := h
    clear h
    go_enter Tryz.func98, Tryz.ntmps98
    go_wp2_with fail
    refine (isLetter_any _ _).mono ?_
    rintro e w' ⟨rfl, rfl⟩
    rw [H.out]
    go_wp2_with fail
    go_ret
    exact ⟨rfl, rfl⟩

end Go.Proofs.YtfhlnelgnnkeoaaGreatDoor
