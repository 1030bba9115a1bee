/-
  Variables as lists of lists; contracts of trace's kindOf and isBeyond, and of the document's IsNumber. By the verifier.
-/
import Derived.Test.YtcalcikclcmkaaaPVal
namespace Go.Proofs.Ytcalcikclcmkaaa
open Go.RowKit
set_option linter.unusedVariables false
structure Pg.RV (w : World) (s : Pg.Sl) (vs : List (List Int)) : Prop where
 len : s.len = vs.length
 cap : s.len ≤ s.cap
 few : vs.length ≤ 35184372088832
 at_ : ∀ i l, vs[i]? = some l → ∃ (b o : Nat) (t : Pg.Sl), s.ad = some ⟨b, o, none⟩ ∧ b < w.heap.size ∧ w.cell? ⟨b, o + i, none⟩ = some (.slice t.ad t.len t.cap) ∧ Pg.RN w t l
theorem Pg.RV.later {w w' : World} {B : Nat} {s : Pg.Sl} {vs : List (List Int)} (h : Pg.RV w s vs) (hb : Below B w w') (hB : w.heap.size ≤ B) : Pg.RV w' s vs :=
 ⟨h.len, h.cap, h.few, fun i l hl => by
  obtain ⟨b, o, t, h1, h2, h3, h4⟩ := h.at_ i l hl
  exact ⟨b, o, t, h1, by have := hb.size; omega, (hb.cell (p := ⟨b, o + i, none⟩) (by show b < B; omega)).trans h3, h4.later hb hB⟩⟩
def Pg.var? (vs : List (List Int)) (n : Int) : Option (List Int) := if 0 ≤ n then vs[n.toNat]? else none
theorem Pg.var_lt {vs : List (List Int)} {n : Int} (h : 0 ≤ n ∧ n < (vs.length : Int)) : ∃ (j : Nat) (l : List Int), n = j ∧ vs[j]? = some l ∧ Pg.var? vs n = some l := by
 obtain ⟨j, rfl⟩ : ∃ j : Nat, n = j := ⟨n.toNat, by omega⟩
 have hj : j < vs.length := by omega
 refine ⟨j, vs[j], rfl, List.getElem?_eq_getElem hj, ?_⟩
 unfold Pg.var?
 rw [if_pos (by omega), Int.toNat_natCast, List.getElem?_eq_getElem hj]
theorem Pg.var_none {vs : List (List Int)} {n : Int} (h : ¬ (0 ≤ n ∧ n < (vs.length : Int))) : Pg.var? vs n = none := by
 unfold Pg.var?
 split
 · exact List.getElem?_eq_none (by omega)
 · rfl
def Pg.kindV (vs : List (List Int)) (n : Int) : Nat := match Pg.var? vs n with
 | none => 2
 | some l => if l.length = 1 then 0 else 1
theorem Pg.kindV_none {vs : List (List Int)} {n : Int} (h : Pg.var? vs n = none) : Pg.kindV vs n = 2 := by unfold Pg.kindV; rw [h]
theorem Pg.kindV_some {vs : List (List Int)} {n : Int} {l : List Int} (h : Pg.var? vs n = some l) : Pg.kindV vs n = if l.length = 1 then 0 else 1 := by unfold Pg.kindV; rw [h]
def Pg.beyond (n : Int) : Bool := decide (n < -2147483648 ∨ n > 2147483647)
theorem isBeyond_any (n : Int) (w : World) : Calls Try.prog 27 #[.int .i64 n] w fun r w' => r = .returned (.bool (Pg.beyond n)) ∧ w' = w := by
 obtain ⟨D, hD⟩ : ∃ D, D = Pg.beyond n := ⟨_, rfl⟩
 rw [← hD]
 have HD := hide (show D = decide (n < -2147483648 ∨ n > 2147483647) from hD)
 clear hD
 go_enter Try.func27, Try.ntmps27
 by_cases h0 : n < -2147483648
 · have HE := hide (show D = true by rw [unhide HD]; exact decide_eq_true (Or.inl h0))
   go_wp2_with fail
   go_ret
   exact ⟨ret_bool (unhide HE).symm, rfl⟩
 · have HE := hide (show D = decide (n > 2147483647) by rw [unhide HD]; exact decide_eq_decide.2 ⟨fun h => h.resolve_left h0, Or.inr⟩)
   go_wp2_with fail
   go_ret
   exact ⟨ret_bool (unhide HE).symm, rfl⟩
theorem IsNumber_any (n : Int) (w : World) : Calls Try.prog 30 #[.int .i64 n] w fun r w' => r = .returned (.bool (!Pg.beyond n)) ∧ w' = w := by
 have HD := hide (show (!Pg.beyond n) = decide (-2147483648 ≤ n ∧ n ≤ 2147483647) by unfold Pg.beyond; rw [Bool.eq_iff_iff]; simp)
 generalize (!Pg.beyond n) = D at *
 go_enter Try.func30, Try.ntmps30
 go_wp2_with fail
 refine (between_any _ _ _ _).mono ?_
 rintro r w1 ⟨rfl, rfl⟩
 rw [← unhide HD]
 go_wp2_with fail
 go_ret
 exact ⟨rfl, rfl⟩
def Pg.cont (a : List Int) : Except Int (List Int) → Except Int (List Int)
 | .error h => .error h
 | .ok b => .ok (a ++ b)
def Pg.evs {α : Type} (f : α → Int × Int) : List α → Except Int (List Int)
 | [] => .ok []
 | y :: r => if (f y).2 = 0 then Pg.cont [(f y).1] (Pg.evs f r) else .error (f y).2
def Pg.fin (vs : List (List Int)) (k n : Int) (ls : List Int) : Int × Int :=
 if k = 1 then (n, 0)
 else if k = 2 then ((((Pg.var? vs n).getD [])[0]?).getD 0, 0)
 else if k = 3 then (match Pg.at? ((Pg.var? vs n).getD []) ((ls[0]?).getD 0) with | none => (0, 3) | some v => (v, 0))
 else Pg.op k ((ls[0]?).getD 0) ((ls[1]?).getD 0)
def Pg.val (vs : List (List Int)) : (n : Nat) → Pg.XT n → Int × Int
 | 0, _ => (0, 0)
 | n + 1, x => match Pg.evs (Pg.val vs n) x.2 with
  | .error h => (0, h)
  | .ok ls => Pg.fin vs x.1.1 x.1.2 ls
end Go.Proofs.Ytcalcikclcmkaaa
