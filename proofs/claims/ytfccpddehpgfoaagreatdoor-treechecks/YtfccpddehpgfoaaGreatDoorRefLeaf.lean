/-
  Contracts of the leaves of the document's answer: between, isLetter, isDigit. By the verifier.
-/
import Derived.Test.YtfccpddehpgfoaaGreatDoorTokA
set_option maxHeartbeats 400000
namespace Go.Proofs.YtfccpddehpgfoaaGreatDoor
open Go.RowKit
set_option linter.unusedVariables false
def Tk.btw (n a b : Int) : Bool := decide (a ≤ n ∧ n ≤ b)
theorem between_any (n a b : Int) (w : World) :
  Calls Tryz.prog 30 #[.int .i64 n, .int .i64 a, .int .i64 b] w fun e w' => e = .returned (.bool (Tk.btw n a b)) ∧ w' = w := by
 by_cases h1 : a ≤ n
 · by_cases h2 : n ≤ b
   · have hh : Tk.btw n a b = true := by simp [Tk.btw, h1, h2]
     rw [hh]; clear hh
     go_enter Tryz.func30, Tryz.ntmps30
     go_wp2
     go_ret
     exact ⟨rfl, rfl⟩
   · have hh : Tk.btw n a b = false := by simp [Tk.btw]; omega
     rw [hh]; clear hh
     go_enter Tryz.func30, Tryz.ntmps30
     go_wp2
     go_ret
     exact ⟨rfl, rfl⟩
 · have hh : Tk.btw n a b = false := by simp [Tk.btw]; omega
   rw [hh]; clear hh
   go_enter Tryz.func30, Tryz.ntmps30
   go_wp2
   go_ret
   exact ⟨rfl, rfl⟩
theorem refLetter_any (c : Int) (w : World) (h0 : 0 ≤ c) (h1 : c ≤ 255) :
  Calls Tryz.prog 147 #[.int .u8 c] w fun e w' => e = .returned (.bool (Tk.isL c)) ∧ w' = w := by
 go_enter Tryz.func147, Tryz.ntmps147
 go_wp2_with fail
 refine (between_any _ _ _ _).mono ?_
 rintro e w' ⟨rfl, rfl⟩
 go_wp2_with fail
 go_ret
 exact ⟨rfl, rfl⟩
theorem refDigit_any (c : Int) (w : World) (h0 : 0 ≤ c) (h1 : c ≤ 255) :
  Calls Tryz.prog 132 #[.int .u8 c] w fun e w' => e = .returned (.bool (Tk.isD c)) ∧ w' = w := by
 go_enter Tryz.func132, Tryz.ntmps132
 go_wp2_with fail
 refine (between_any _ _ _ _).mono ?_
 rintro e w' ⟨rfl, rfl⟩
 go_wp2_with fail
 go_ret
 exact ⟨rfl, rfl⟩
end Go.Proofs.YtfccpddehpgfoaaGreatDoor
