/-
  Variables as lists of lists; the contract of the document's IsNumber. By the verifier.
-/
import Derived.Test.YtpfogjplnodacaaPRef
namespace Go.Proofs.Ytpfogjplnodacaa
open Go.RowKit
set_option linter.unusedVariables false
structure Pg.RV (w : World) (s : Pg.Sl) (vs : List (List Int)) : Prop where
 len : s.len = vs.length
 cap : s.len ≤ s.cap
 few : vs.length ≤ 35184372088832
 at_ : ∀ i l, vs[i]? = some l → ∃ (b o : Nat) (t : Pg.Sl), s.ad = some ⟨b, o, none⟩ ∧ b < w.heap.size ∧ w.cell? ⟨b, o + i, none⟩ = some (.slice t.ad t.len t.cap) ∧ Pg.RN w t l
theorem Pg.RV.later {w w' : World} {B : Nat} {s : Pg.Sl} {vs : List (List Int)} (h : Pg.RV w s vs) (hb : Below B w w') (hB : w.heap.size ≤ B) : Pg.RV w' s vs :=
 ⟨h.len, h.cap, h.few, fun i l hl => by
  obtain ⟨b, o, t, h1, h2, h3, h4⟩ := h.at_ i l hl
  exact ⟨b, o, t, h1, by have := hb.size; omega, (hb.cell (p := ⟨b, o + i, none⟩) (by show b < B; omega)).trans h3, h4.later hb hB⟩⟩
def Pg.var? (vs : List (List Int)) (n : Int) : Option (List Int) := if 0 ≤ n then vs[n.toNat]? else none
def Pg.beyond (n : Int) : Bool := decide (n < -2147483648 ∨ n > 2147483647)
theorem IsNumber_any (n : Int) (w : World) : Calls Try.prog 23 #[.int .i64 n] w fun r w' => r = .returned (.bool (!Pg.beyond n)) ∧ w' = w := by
 have HD := hide (show (!Pg.beyond n) = decide (-2147483648 ≤ n ∧ n ≤ 2147483647) by unfold Pg.beyond; rw [Bool.eq_iff_iff]; simp)
 generalize (!Pg.beyond n) = D at *
 go_enter Try.func23, Try.ntmps23
 go_wp2_with fail
 refine (between_any _ _ _ _).mono ?_
 rintro r w1 ⟨rfl, rfl⟩
 rw [← unhide HD]
 go_wp2_with fail
 go_ret
 exact ⟨rfl, rfl⟩
end Go.Proofs.Ytpfogjplnodacaa
