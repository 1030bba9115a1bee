/-
  What QueryHangs leans on, of plain lists. By the verifier.
-/
import Derived.Test.YtfhlnelgnnkeoaaGreatDoorQTake
import Derived.Test.YtfhlnelgnnkeoaaGreatDoorQHolds
namespace Go.Proofs.YtfhlnelgnnkeoaaGreatDoor
open Go.RowKit
set_option linter.unusedVariables false

/-- A query of two others. -/
def Qk.two {n : Nat} (k : Int) (x y : Qk.AT n) : Qk.AT (n + 1) := ((k, 0), [x, y])
def Qk.one {n : Nat} (k : Int) (x : Qk.AT n) : Qk.AT (n + 1) := ((k, 0), [x])
theorem Qk.two_parts {n : Nat} (k : Int) (x y : Qk.AT n) : Qk.parts (n + 1) (Qk.two k x y) = 1 + (Qk.parts n x + Qk.parts n y) := by
  show 1 + (Qk.parts n x + (Qk.parts n y + 0)) = _
  omega
theorem Qk.one_parts {n : Nat} (k : Int) (x : Qk.AT n) : Qk.parts (n + 1) (Qk.one k x) = 1 + Qk.parts n x := by
  show 1 + (Qk.parts n x + 0) = _
  omega
theorem Qk.two_wrong {n : Nat} (k : Int) (x y : Qk.AT n) (hk : k = 9 ∨ k = 13) : Qk.wrong (n + 1) (Qk.two k x y) = if Qk.wrong n x = 0 then Qk.wrong n y else Qk.wrong n x := by
  rcases hk with rfl | rfl
  all_goals
    show (if Qk.wrong n x = 0 then (if Qk.wrong n y = 0 then 0 else Qk.wrong n y) else Qk.wrong n x) = _
    split
    · split
      · rename_i h; exact h.symm
      · rfl
    · rfl
theorem Qk.one_wrong {n : Nat} (k : Int) (x : Qk.AT n) (hk : k = 7 ∨ k = 11 ∨ k = 12) : Qk.wrong (n + 1) (Qk.one k x) = Qk.wrong n x := by
  rcases hk with rfl | rfl | rfl
  all_goals
    show (if Qk.wrong n x = 0 then 0 else Qk.wrong n x) = _
    split
    · rename_i h; exact h.symm
    · rfl
theorem Qk.two_ok {n : Nat} (k : Int) (x y : Qk.AT n) (hk : k = 9 ∨ k = 13) (len : Nat) : Qk.hErr (n + 1) (Qk.two k x y) len = 0 ↔ (1 + (Qk.parts n x + Qk.parts n y) ≤ 15 ∧ Qk.wrong n x = 0 ∧ Qk.wrong n y = 0 ∧ len ≤ 4000) := by
  unfold Qk.hErr Qk.chk
  rw [Qk.two_parts, Qk.two_wrong k x y hk]
  constructor
  · intro h
    by_cases h1 : 15 < 1 + (Qk.parts n x + Qk.parts n y)
    · simp [h1] at h
    · by_cases h2 : Qk.wrong n x = 0
      · by_cases h3 : Qk.wrong n y = 0
        · by_cases h4 : 4000 < len
          · simp [h1, h2, h3, h4] at h
          · exact ⟨by omega, h2, h3, by omega⟩
        · simp [h1, h2, h3] at h
      · simp [h1, h2] at h
  · rintro ⟨h1, h2, h3, h4⟩
    have a : ¬ 15 < 1 + (Qk.parts n x + Qk.parts n y) := by omega
    have b : ¬ 4000 < len := by omega
    simp [a, h2, h3, b]
theorem Qk.at_marksBy (k m : Int) (l : List Ev) (s : List (List Bool)) {t : Nat} (h : t < l.length) : Qk.at_ (Qk.marksBy k m l s) t = Qk.ev k m l (Qk.sub s 0) (Qk.sub s 1) t := by
  apply Qk.at_some
  unfold Qk.marksBy
  rw [List.getElem?_map, List.getElem?_range h]
  rfl
theorem Qk.at_or {n : Nat} (x : Qk.AT n) (l : List Ev) {t : Nat} (h : t < l.length) : Qk.at_ (Qk.marks (n + 1) (Qk.two 9 x x) l) t = Qk.at_ (Qk.marks n x l) t := by
  show Qk.at_ (Qk.marksBy 9 0 l [Qk.marks n x l, Qk.marks n x l]) t = _
  rw [Qk.at_marksBy 9 0 l _ h]
  show (Qk.at_ (Qk.marks n x l) t || Qk.at_ (Qk.marks n x l) t) = _
  exact Bool.or_self _
theorem Qk.at_since {n : Nat} (x y : Qk.AT n) (l : List Ev) {t : Nat} (h : t < l.length) : Qk.at_ (Qk.marks (n + 1) (Qk.two 13 x y) l) t = Qk.sinceTo (Qk.marks n x l) (Qk.marks n y l) (t + 1) := by
  show Qk.at_ (Qk.marksBy 13 0 l [Qk.marks n x l, Qk.marks n y l]) t = _
  rw [Qk.at_marksBy 13 0 l _ h]
  rfl
theorem Qk.not_all (a b : List Bool) (len : Nat) (h : ∀ t, t < len → Qk.at_ b t = !Qk.at_ a t) : ∀ t, t ≤ len → Qk.onceTo a t = !Qk.allTo b t
  | 0, _ => rfl
  | t + 1, ht => by
    unfold Qk.onceTo Qk.allTo
    rw [Qk.not_all a b len h t (by omega), h t (by omega)]
    cases Qk.allTo b t <;> cases Qk.at_ a t <;> rfl
theorem Qk.once_is {n : Nat} (x : Qk.AT n) (l : List Ev) : Qk.marks (n + 1) (Qk.one 11 x) l = Qk.marks (n + 3) (Qk.one 7 (Qk.one 12 (Qk.one 7 x))) l := by
  show Qk.marksBy 11 0 l [Qk.marks n x l] = Qk.marksBy 7 0 l [Qk.marksBy 12 0 l [Qk.marksBy 7 0 l [Qk.marks n x l]]]
  refine List.map_congr_left fun t ht => ?_
  rw [List.mem_range] at ht
  show Qk.onceTo (Qk.marks n x l) (t + 1) = !Qk.at_ (Qk.marksBy 12 0 l [Qk.marksBy 7 0 l [Qk.marks n x l]]) t
  rw [Qk.at_marksBy 12 0 l _ ht]
  show _ = !Qk.allTo (Qk.marksBy 7 0 l [Qk.marks n x l]) (t + 1)
  refine Qk.not_all _ _ l.length (fun u hu => ?_) (t + 1) ht
  rw [Qk.at_marksBy 7 0 l _ hu]
  rfl
end Go.Proofs.YtfhlnelgnnkeoaaGreatDoor
