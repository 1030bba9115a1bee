/-
  TokenJoins: the walk of the law. By the verifier.
-/
import Derived.Test.YtnfigfedijhiiaaRefJoin
import Derived.Test.YtnfigfedijhiiaaBegun
namespace Go.Proofs.Ytnfigfedijhiiaa
open Go.RowKit
set_option linter.unusedVariables false

set_option maxRecDepth 100000 in
set_option maxHeartbeats 800000 in
theorem joins_walk (l : List (Int × Int × ByteArray)) (ad : Option Addr) (cap : Nat) (w : World) (hr : Tk.Reads w ad l) (hl : l.length ≤ 35184372088832) :
    Calls Try.prog 4 #[.slice ad l.length cap] w fun e w' => e = .returned (.bool true) ∧ Below w.heap.size w w' := by
  have HR := hide hr
  clear hr
  go_enter Try.func4, Try.ntmps4
  go_wp2_with fail
  refine (Join_any l ad cap _ (unhide HR) hl).mono ?_
  rintro e w1 ⟨rfl, hb⟩
  have hz := hb.size
  have HB := hide hb
  clear hb
  go_wp2_with fail
  refine (JoinOf_any l ad cap _ ((unhide HR).later (unhide HB) (Nat.le_refl _)) hl).mono ?_
  rintro e w2 ⟨rfl, hb⟩
  have hz2 := hb.size
  have HB2 := hide hb
  clear hb
  generalize Tk.joinR l = R at *
  obtain ⟨t, er⟩ := R
  have g1 : ((er : Int) == (er : Int)) = true := by simp
  have g2 : (t.toList == t.toList) = true := by simp
  go_wp2_with fail
  refine (tokenBegun_any _).mono ?_
  rintro e w3 ⟨rfl, hb3⟩
  have HB3 := hide hb3
  clear hb3
  go_wp2_with fail
  go_ret
  exact ⟨rfl, ((unhide HB).trans ((unhide HB2).mono hz)).trans ((unhide HB3).mono (by omega))⟩
end Go.Proofs.Ytnfigfedijhiiaa
