/-
  Tokens stand one behind the other: plain. By the verifier.
-/
import Derived.Test.YtnfigfedijhiiaaIsTok
namespace Go.Proofs.Ytnfigfedijhiiaa.Tk
set_option linter.unusedVariables false

def ordd (size : Nat) : Nat → List (Nat × Nat × Nat) → Prop
  | _, [] => True
  | p, t :: r => p ≤ t.2.1 ∧ 0 < t.2.2 ∧ t.2.1 + t.2.2 ≤ size ∧ ordd size (t.2.1 + t.2.2) r

theorem ordd_le {size p q : Nat} (h : q ≤ p) : ∀ {l : List (Nat × Nat × Nat)}, ordd size p l → ordd size q l := by
  intro l hl
  cases l with
  | nil => trivial
  | cons t r => exact ⟨Nat.le_trans h hl.1, hl.2⟩

theorem scl_ord (l : List Int) : ∀ (pos k : Nat) (b : Bool) (acc : List (Nat × Nat × Nat)), k ≤ l.length → (scl l pos k b acc).2.2 = 0 → ∃ m, (scl l pos k b acc).1 = acc ++ m ∧ ordd (pos + l.length) (pos + k) m := by
  induction l with
  | nil => intro pos k b acc _ _; rw [scl_nil]; exact ⟨[], by simp, trivial⟩
  | cons c r ih =>
    intro pos k b acc hk h
    have el : pos + 1 + r.length = pos + (c :: r).length := by rw [List.length_cons]; omega
    rw [List.length_cons] at hk
    cases k with
    | succ k =>
      rw [scl_skip1] at h ⊢
      obtain ⟨m, h1, h2⟩ := ih _ _ _ _ (by omega) h
      rw [el] at h2
      exact ⟨m, h1, by rw [show pos + (k + 1) = pos + 1 + k from by omega]; exact h2⟩
    | zero =>
      rw [scl] at h ⊢
      split at h
      · rename_i h1
        rw [if_pos h1]
        obtain ⟨m, h1, h2⟩ := ih _ _ _ _ (by omega) h
        rw [el] at h2
        exact ⟨m, h1, ordd_le (by omega) h2⟩
      · rename_i h1
        rw [if_neg h1]
        split at h
        · rename_i h2
          rw [if_pos h2]
          obtain ⟨m, h1, h2⟩ := ih _ _ _ _ (by omega) h
          rw [el] at h2
          exact ⟨m, h1, ordd_le (by omega) h2⟩
        · rename_i h2
          rw [if_neg h2]
          split at h
          · rename_i h3
            rw [if_pos h3]
            have hp := tokN_pos c r h3
            have hn := tokN_le (c :: r)
            rw [List.length_cons] at hn
            obtain ⟨m, h4, h5⟩ := ih _ _ _ _ (by omega) h
            rw [el] at h5
            refine ⟨[(tokK (c :: r), pos, tokN (c :: r))] ++ m, by rw [h4, List.append_assoc], ?_⟩
            exact ⟨by show pos + 0 ≤ pos; omega, hp, by show pos + tokN (c :: r) ≤ _; rw [List.length_cons]; omega, by
              show ordd _ (pos + tokN (c :: r)) m
              rw [show pos + tokN (c :: r) = pos + 1 + (tokN (c :: r) - 1) from by omega]
              exact h5⟩
          · rename_i h3
            exact absurd h h3

theorem scl_err (l : List Int) : ∀ (pos k : Nat) (b : Bool) (acc : List (Nat × Nat × Nat)), (scl l pos k b acc).2.2 ≠ 0 → (scl l pos k b acc).1 = [] := by
  induction l with
  | nil => intro pos k b acc h; rw [scl_nil] at h; exact absurd rfl h
  | cons c r ih =>
    intro pos k b acc h
    cases k with
    | succ k => rw [scl_skip1] at h ⊢; exact ih _ _ _ _ h
    | zero =>
      rw [scl] at h ⊢
      split at h
      · rename_i h1; rw [if_pos h1]; exact ih _ _ _ _ h
      · rename_i h1
        rw [if_neg h1]
        split at h
        · rename_i h2; rw [if_pos h2]; exact ih _ _ _ _ h
        · rename_i h2
          rw [if_neg h2]
          split at h
          · rename_i h3; rw [if_pos h3]; exact ih _ _ _ _ h
          · rename_i h3; rw [if_neg h3]

theorem ordd_length (size : Nat) : ∀ (l : List (Nat × Nat × Nat)) (p : Nat), p ≤ size → ordd size p l → p + l.length ≤ size := by
  intro l
  induction l with
  | nil => intro p hp _; exact hp
  | cons x r ih =>
    intro p hp h
    have := ih _ h.2.2.1 h.2.2.2
    have h1 := h.1
    have h2 := h.2.1
    rw [List.length_cons]
    omega

theorem ordd_drop (size : Nat) : ∀ (l : List (Nat × Nat × Nat)) (p : Nat), ordd size p l → ∀ t ∈ l, p ≤ t.2.1 ∧ 0 < t.2.2 ∧ t.2.1 + t.2.2 ≤ size := by
  intro l
  induction l with
  | nil => intro p _ t ht; cases ht
  | cons x r ih =>
    intro p h t ht
    rcases List.mem_cons.1 ht with e | hr
    · subst e; exact ⟨h.1, h.2.1, h.2.2.1⟩
    · have := ih _ h.2.2.2 t hr
      exact ⟨by have := h.1; omega, this.2.1, this.2.2⟩

end Go.Proofs.Ytnfigfedijhiiaa.Tk
