/-
  What the marks of a beginning of a list tell. By the verifier.
-/
import Derived.Test.YtfhlnelgnnkeoaaGreatDoorQLooks
import Derived.Test.YtfhlnelgnnkeoaaGreatDoorQRule
namespace Go.Proofs.YtfhlnelgnnkeoaaGreatDoor
open Go.RowKit
set_option linter.unusedVariables false

theorem Qk.at_take (b : List Bool) {c t : Nat} (h : t < c) : Qk.at_ (b.take c) t = Qk.at_ b t := by unfold Qk.at_; rw [List.getElem?_take, if_pos h]
theorem Qk.onceTo_take (b : List Bool) {c : Nat} : ∀ t, t ≤ c → Qk.onceTo (b.take c) t = Qk.onceTo b t
  | 0, _ => rfl
  | t + 1, h => by unfold Qk.onceTo; rw [Qk.onceTo_take b t (by omega), Qk.at_take b (by omega)]
theorem Qk.allTo_take (b : List Bool) {c : Nat} : ∀ t, t ≤ c → Qk.allTo (b.take c) t = Qk.allTo b t
  | 0, _ => rfl
  | t + 1, h => by unfold Qk.allTo; rw [Qk.allTo_take b t (by omega), Qk.at_take b (by omega)]
theorem Qk.sinceTo_take (a b : List Bool) {c : Nat} : ∀ t, t ≤ c → Qk.sinceTo (a.take c) (b.take c) t = Qk.sinceTo a b t
  | 0, _ => rfl
  | t + 1, h => by unfold Qk.sinceTo; rw [Qk.sinceTo_take a b t (by omega), Qk.at_take a (by omega), Qk.at_take b (by omega)]
theorem Qk.ev_take {k : Int} (hk : Qk.isK k = true) (h14 : (k == 14) = false) (n : Int) (l : List Ev) (a b : List Bool) {c t : Nat} (h : t < c) :
    Qk.ev k n (l.take c) (a.take c) (b.take c) t = Qk.ev k n l a b t := by
  have e : (l.take c)[t]? = l[t]? := by rw [List.getElem?_take, if_pos h]
  have ef : ∀ kk m, Qk.fitsAt kk m (l.take c) t = Qk.fitsAt kk m l t := fun kk m => by unfold Qk.fitsAt; rw [e]
  rcases Qk.kinds hk with rfl | rfl | rfl | rfl | rfl | rfl | rfl | rfl | rfl | rfl | rfl | rfl | rfl | rfl
  · exact ef 1 n
  · exact ef 2 n
  · exact ef 5 n
  · exact ef 4 (-1)
  · show (((l.take c)[t]?).any (fun e => decide (e.n5 < n))) = _; rw [e]; rfl
  · show (((l.take c)[t]?).any (fun e => decide (e.n5 = n))) = _; rw [e]; rfl
  · show (!Qk.at_ (a.take c) t) = _; rw [Qk.at_take a h]; rfl
  · show (Qk.at_ (a.take c) t && Qk.at_ (b.take c) t) = _; rw [Qk.at_take a h, Qk.at_take b h]; rfl
  · show (Qk.at_ (a.take c) t || Qk.at_ (b.take c) t) = _; rw [Qk.at_take a h, Qk.at_take b h]; rfl
  · show (decide (0 < t) && Qk.at_ (a.take c) (t - 1)) = _; rw [Qk.at_take a (by omega)]; rfl
  · exact Qk.onceTo_take a (t + 1) h
  · exact Qk.allTo_take a (t + 1) h
  · exact Qk.sinceTo_take a b (t + 1) h
  · cases h14
theorem Qk.sub_take (s s' : List (List Bool)) (c i : Nat) (h : s' = s.map fun b => b.take c) : Qk.sub s' i = (Qk.sub s i).take c := by
  subst h
  unfold Qk.sub
  rw [List.getElem?_map]
  cases s[i]? with
  | none => simp
  | some b => rfl
theorem Qk.marks_take : ∀ (n : Nat) (x : Qk.AT n) (l : List Ev) (c : Nat), Qk.wrong n x = 0 → Qk.looks n x = false → Qk.marks n x (l.take c) = (Qk.marks n x l).take c := by
  intro n
  induction n with
  | zero => intro x l c _ _; exact (List.take_nil).symm
  | succ n ih =>
    rintro ⟨⟨k, m⟩, s⟩ l c hw hl
    have hw1 : (if Qk.isK k then (if s.length = Qk.argsN k then (if Qk.within k m then Qk.firstW (s.map (Qk.wrong n)) else 3) else 1) else 7) = 0 := hw
    have hl1 : ((k == 14) || s.any (Qk.looks n)) = false := hl
    rw [Bool.or_eq_false_iff] at hl1
    obtain ⟨hk, hsub⟩ : Qk.isK k = true ∧ ∀ y ∈ s, Qk.wrong n y = 0 := by
      split at hw1
      · rename_i a
        split at hw1
        · split at hw1
          · exact ⟨a, fun y hy => Qk.firstW_zero hw1 _ (List.mem_map_of_mem hy)⟩
          · cases hw1
        · cases hw1
      · cases hw1
    have hs : (s.map fun y => Qk.marks n y (l.take c)) = (s.map fun y => Qk.marks n y l).map fun b => b.take c := by
      rw [List.map_map]
      exact List.map_congr_left fun y hy => ih y l c (hsub y hy) (by
        have h2 := hl1.2
        rw [List.any_eq_false] at h2
        simpa using h2 y hy)
    show Qk.marksBy k m (l.take c) (s.map fun y => Qk.marks n y (l.take c)) = (Qk.marksBy k m l (s.map fun y => Qk.marks n y l)).take c
    unfold Qk.marksBy
    rw [← List.map_take, List.take_range, List.length_take, Qk.sub_take _ _ c 0 hs, Qk.sub_take _ _ c 1 hs]
    refine List.map_congr_left fun t ht => ?_
    rw [List.mem_range] at ht
    exact Qk.ev_take hk hl1.1 m l _ _ (by omega)
end Go.Proofs.YtfhlnelgnnkeoaaGreatDoor
