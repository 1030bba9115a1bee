/-
  An expression's form, told by two variables in the place of all. By the verifier.
-/
import Derived.Test.YtcalcikclcmkaaaPReckon
namespace Go.Proofs.Ytcalcikclcmkaaa
open Go.RowKit
set_option linter.unusedVariables false
def Pg.sizesOf (vs : List (List Int)) : List Int := vs.map fun l => if l.length = 1 then 0 else (l.length : Int) + 1
def Pg.ren (vs : List (List Int)) : (n : Nat) → Pg.XT n → Pg.XT n
 | 0, x => x
 | n + 1, x => ((x.1.1, if x.1.1 = 2 ∨ x.1.1 = 3 then ((Pg.kindV vs x.1.2 : Nat) : Int) else x.1.2), x.2.map (Pg.ren vs n))
theorem Pg.sizes_nn (vs : List (List Int)) : ∀ z ∈ Pg.sizesOf vs, 0 ≤ z := by
 intro z hz
 obtain ⟨l, _, rfl⟩ := List.mem_map.1 hz
 split <;> omega
theorem Pg.at_sizes (vs : List (List Int)) (n : Int) : Pg.at? (Pg.sizesOf vs) n = (Pg.var? vs n).map fun l => if l.length = 1 then 0 else (l.length : Int) + 1 := by
 unfold Pg.at? Pg.var? Pg.sizesOf
 split
 · rw [List.getElem?_map]
 · rfl
theorem Pg.parts_ren (vs : List (List Int)) : ∀ (n : Nat) (x : Pg.XT n), Pg.parts n (Pg.ren vs n x) = Pg.parts n x
 | 0, _ => rfl
 | n + 1, x => by
  show 1 + ((x.2.map (Pg.ren vs n)).map (Pg.parts n)).sum = 1 + (x.2.map (Pg.parts n)).sum
  rw [List.map_map]
  congr 2
  exact List.map_congr_left fun y _ => Pg.parts_ren vs n y
theorem Pg.wx0_ren (vs : List (List Int)) (k n : Int) : Pg.wx0 [0, 1] k (if k = 2 ∨ k = 3 then ((Pg.kindV vs n : Nat) : Int) else n) = Pg.wx0 (Pg.sizesOf vs) k n := by
 by_cases h1 : k = 1
 · rw [if_neg (show ¬ (k = 2 ∨ k = 3) by omega)]
   rw [Pg.wx0_num h1, Pg.wx0_num h1]
 · by_cases h2 : k = 2 ∨ k = 3
   · rw [if_pos h2]
     have hs := Pg.at_sizes vs n
     cases hv : Pg.var? vs n with
     | none =>
      rw [hv] at hs
      rw [Pg.kindV_none hv, Pg.wx0_none h2 (show Pg.at? [0, 1] ((2 : Nat) : Int) = none from rfl), Pg.wx0_none h2 hs]
     | some l =>
      rw [hv] at hs
      have hs' : Pg.at? (Pg.sizesOf vs) n = some (if l.length = 1 then 0 else (l.length : Int) + 1) := hs
      rw [Pg.kindV_some hv, Pg.wx0_some h2 hs']
      by_cases hl : l.length = 1
      · rw [if_pos hl, Pg.wx0_some h2 (show Pg.at? [0, 1] ((0 : Nat) : Int) = some 0 from rfl), if_pos hl]
      · rw [if_neg hl, Pg.wx0_some h2 (show Pg.at? [0, 1] ((1 : Nat) : Int) = some 1 from rfl), if_neg hl]
        by_cases h3 : k = 3
        · rw [if_pos (by omega), if_pos (by omega)]
        · rw [if_neg (by omega), if_neg (by omega)]
   · rw [Pg.wx0_op h1 h2, Pg.wx0_op h1 h2, if_neg h2]
theorem Pg.wx_ren (vs : List (List Int)) : ∀ (n : Nat) (x : Pg.XT n), Pg.wx [0, 1] n (Pg.ren vs n x) = Pg.wx (Pg.sizesOf vs) n x
 | 0, _ => rfl
 | n + 1, x => by
  show Pg.orW (Pg.wx1 [0, 1] x.1.1 (if x.1.1 = 2 ∨ x.1.1 = 3 then ((Pg.kindV vs x.1.2 : Nat) : Int) else x.1.2) (x.2.map (Pg.ren vs n)).length) (Pg.first ((x.2.map (Pg.ren vs n)).map (Pg.wx [0, 1] n))) = Pg.orW (Pg.wx1 (Pg.sizesOf vs) x.1.1 x.1.2 x.2.length) (Pg.first (x.2.map (Pg.wx (Pg.sizesOf vs) n)))
  rw [List.length_map, List.map_map, show x.2.map (Pg.wx [0, 1] n ∘ Pg.ren vs n) = x.2.map (Pg.wx (Pg.sizesOf vs) n) from List.map_congr_left fun y _ => Pg.wx_ren vs n y]
  congr 1
  unfold Pg.wx1
  rw [Pg.wx0_ren]
theorem Pg.chkX_ren (vs : List (List Int)) (n : Nat) (x : Pg.XT n) : Pg.chkX [0, 1] n (Pg.ren vs n x) = Pg.chkX (Pg.sizesOf vs) n x := by
 unfold Pg.chkX
 rw [Pg.parts_ren, Pg.wx_ren]
theorem Pg.orW_zero {a b : Nat} (h : Pg.orW a b = 0) : a = 0 ∧ b = 0 := by
 unfold Pg.orW at h
 split at h
 · rename_i h1; exact ⟨h1, h⟩
 · rename_i h1; exact absurd h h1
theorem Pg.okV_top {n : Nat} (vs : List (List Int)) (x : Pg.XT (n + 1)) (h : Pg.wx1 (Pg.sizesOf vs) x.1.1 x.1.2 x.2.length = 0) (hs : ∀ y ∈ x.2, Pg.okV vs n y) : Pg.okV vs (n + 1) x := by
 unfold Pg.wx1 at h
 split at h
 · rename_i hK
   split at h
   · rename_i hA
     have key : (x.1.1 = 2 ∨ x.1.1 = 3) → ∃ l, Pg.var? vs x.1.2 = some l ∧ (x.1.1 = 2 → l ≠ []) := fun h2 => by
      cases hv : Pg.var? vs x.1.2 with
      | none =>
       rw [Pg.wx0_none h2 (by rw [Pg.at_sizes, hv]; rfl)] at h
       cases h
      | some l =>
       refine ⟨l, rfl, fun hk hl => ?_⟩
       subst hl
       rw [Pg.wx0_some h2 (by rw [Pg.at_sizes, hv]; rfl), if_neg (by simp; omega)] at h
       cases h
     refine ⟨hK, hA, fun h2 => ?_, fun h3 => ?_, hs⟩
     · obtain ⟨l, hl, hne⟩ := key (Or.inl h2)
       exact ⟨l, hl, hne h2⟩
     · obtain ⟨l, hl, _⟩ := key (Or.inr h3)
       exact ⟨l, hl⟩
   · cases h
 · cases h
theorem Pg.okV_of (vs : List (List Int)) : ∀ (n : Nat) (x : Pg.XT (n + 1)), Pg.wx (Pg.sizesOf vs) (n + 1) x = 0 → Pg.okV vs (n + 1) x := by
 intro n
 induction n with
 | zero =>
  intro x h
  obtain ⟨h1, _⟩ := Pg.orW_zero (show Pg.orW (Pg.wx1 (Pg.sizesOf vs) x.1.1 x.1.2 x.2.length) _ = 0 from h)
  exact Pg.okV_top vs x h1 (fun y _ => Empty.elim y)
 | succ n ih =>
  intro x h
  obtain ⟨h1, h2⟩ := Pg.orW_zero (show Pg.orW (Pg.wx1 (Pg.sizesOf vs) x.1.1 x.1.2 x.2.length) (Pg.first (x.2.map (Pg.wx (Pg.sizesOf vs) (n + 1)))) = 0 from h)
  exact Pg.okV_top vs x h1 (fun y hy => ih y (Pg.first_zero h2 _ (List.mem_map_of_mem hy)))
end Go.Proofs.Ytcalcikclcmkaaa
