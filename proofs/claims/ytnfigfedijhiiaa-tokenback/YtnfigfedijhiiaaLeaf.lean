/-
  Contracts of the leaves of package token: isLetter, isDigit, the two literals, behind. By the verifier.
-/
import Derived.Test.YtnfigfedijhiiaaProg
import Derived.Test.YtnfigfedijhiiaaPlain
import Derived.WalkKit
import Derived.WalkSpells
import Derived.WalkLawsBesides
namespace Go.Proofs.Ytnfigfedijhiiaa
open Go.RowKit
set_option linter.unusedVariables false

theorem hide {p : Prop} (h : p) : Hid p := h
theorem unhide {p : Prop} (h : Hid p) : p := h

set_option maxHeartbeats 400000 in
theorem isLetter_any (c : Int) (w : World) :
    Calls Try.prog 28 #[.int .u8 c] w fun e w' => e = .returned (.bool (Tk.isL c)) ∧ w' = w := by
  by_cases h : 97 ≤ c ∧ c ≤ 122
  · obtain ⟨h1, h2⟩ := h
    have hh : Tk.isL c = true := by simp [Tk.isL, h1, h2]
    rw [hh]; clear hh
    go_enter Try.func28, Try.ntmps28
    go_wp2
    go_ret
    exact ⟨rfl, rfl⟩
  · have hh : Tk.isL c = false := by simp [Tk.isL]; omega
    rw [hh]; clear hh
    by_cases h1 : 97 ≤ c
    · have h2 : ¬ c ≤ 122 := by omega
      clear h
      go_enter Try.func28, Try.ntmps28
      go_wp2
      go_ret
      exact ⟨rfl, rfl⟩
    · clear h
      go_enter Try.func28, Try.ntmps28
      go_wp2
      go_ret
      exact ⟨rfl, rfl⟩

set_option maxHeartbeats 400000 in
theorem isDigit_any (c : Int) (w : World) :
    Calls Try.prog 30 #[.int .u8 c] w fun e w' => e = .returned (.bool (Tk.isD c)) ∧ w' = w := by
  by_cases h : 48 ≤ c ∧ c ≤ 57
  · obtain ⟨h1, h2⟩ := h
    have hh : Tk.isD c = true := by simp [Tk.isD, h1, h2]
    rw [hh]; clear hh
    go_enter Try.func30, Try.ntmps30
    go_wp2
    go_ret
    exact ⟨rfl, rfl⟩
  · have hh : Tk.isD c = false := by simp [Tk.isD]; omega
    rw [hh]; clear hh
    by_cases h1 : 48 ≤ c
    · have h2 : ¬ c ≤ 57 := by omega
      clear h
      go_enter Try.func30, Try.ntmps30
      go_wp2
      go_ret
      exact ⟨rfl, rfl⟩
    · clear h
      go_enter Try.func30, Try.ntmps30
      go_wp2
      go_ret
      exact ⟨rfl, rfl⟩

set_option maxHeartbeats 400000 in
theorem notNl_any (c : Int) (w : World) :
    Calls Try.prog 27 #[.int .u8 c] w fun e w' => e = .returned (.bool (Tk.notNl c)) ∧ w' = w := by
  go_enter Try.func27, Try.ntmps27
  go_wp2
  go_ret
  exact ⟨rfl, rfl⟩

set_option maxHeartbeats 400000 in
theorem isLD_any (c : Int) (w : World) :
    Calls Try.prog 36 #[.int .u8 c] w fun e w' => e = .returned (.bool (Tk.isLD c)) ∧ w' = w := by
  cases h : Tk.isL c
  · have hh : Tk.isLD c = Tk.isD c := by simp [Tk.isLD, h]
    rw [hh]; clear hh
    have H : Hid (Tk.isL c = false) := h
    clear h
    go_enter Try.func36, Try.ntmps36
    go_wp2_with fail
    refine (isLetter_any _ _).mono ?_
    rintro e w' ⟨rfl, rfl⟩
    rw [H.out]
    go_wp2_with fail
    refine (isDigit_any _ _).mono ?_
    rintro e w' ⟨rfl, rfl⟩
    go_wp2_with fail
    go_ret
    exact ⟨rfl, rfl⟩
  · have hh : Tk.isLD c = true := by simp [Tk.isLD, h]
    rw [hh]; clear hh
    have H : Hid (Tk.isL c = true) := h
    clear h
    go_enter Try.func36, Try.ntmps36
    go_wp2_with fail
    refine (isLetter_any _ _).mono ?_
    rintro e w' ⟨rfl, rfl⟩
    rw [H.out]
    go_wp2_with fail
    go_ret
    exact ⟨rfl, rfl⟩

end Go.Proofs.Ytnfigfedijhiiaa
