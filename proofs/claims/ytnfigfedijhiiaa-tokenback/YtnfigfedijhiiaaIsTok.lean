/-
  When a text is just one token: plain. By the verifier.
-/
import Derived.Test.YtnfigfedijhiiaaScl
namespace Go.Proofs.Ytnfigfedijhiiaa.Tk
set_option linter.unusedVariables false

theorem scl_prefix (l : List Int) : ∀ (pos k : Nat) (b : Bool) (acc : List (Nat × Nat × Nat)), (scl l pos k b acc).2.2 = 0 → ∃ m, (scl l pos k b acc).1 = acc ++ m := by
  induction l with
  | nil => intro pos k b acc _; rw [scl_nil]; exact ⟨[], by simp⟩
  | cons c r ih =>
    intro pos k b acc h
    cases k with
    | succ k => rw [scl_skip1] at h ⊢; exact ih _ _ _ _ h
    | zero =>
      rw [scl] at h ⊢
      split at h
      · rename_i h1; rw [if_pos h1]; exact ih _ _ _ _ h
      · rename_i h1
        rw [if_neg h1]
        split at h
        · rename_i h2; rw [if_pos h2]; exact ih _ _ _ _ h
        · rename_i h2
          rw [if_neg h2]
          split at h
          · rename_i h3
            rw [if_pos h3]
            obtain ⟨m, hm⟩ := ih _ _ _ _ h
            exact ⟨[_] ++ m, by rw [hm, List.append_assoc]⟩
          · rename_i h3
            exact absurd h h3

theorem scl_first (l : List Int) (pos : Nat) (h0 : (scl l pos 0 false []).2.2 = 0) (h1 : (scl l pos 0 false []).1.length = 1) :
    ∃ c r, l.drop (gap false l) = c :: r ∧ free c = true ∧ bad (c :: r) = 0 ∧ (scl l pos 0 false []).1 = [(tokK (c :: r), pos + gap false l, tokN (c :: r))] := by
  have hg := gap_gap l false
  rw [scl_gap] at h0 h1 ⊢
  generalize l.drop (gap false l) = m at *
  generalize pos + gap false l = p at *
  cases m with
  | nil => rw [scl_nil] at h1; simp at h1
  | cons c r =>
    have hf := (gap_free c r).1 hg
    by_cases hb : bad (c :: r) = 0
    · refine ⟨c, r, rfl, hf, hb, ?_⟩
      rw [scl_tok c r p [] hf hb] at h0 h1 ⊢
      obtain ⟨m, hm⟩ := scl_prefix _ _ _ _ _ h0
      rw [hm] at h1 ⊢
      simp at h1
      subst h1
      simp
    · rw [scl_bad c r p [] hf hb] at h0
      exact absurd h0 hb

/-- Is a text of so many bytes one token of this kind? -/
def isTok (k : Int) (l : List Int) : Bool :=
  decide (l.length ≤ 6000) && decide (gap false l = 0) && decide (bad l = 0) && decide ((tokK l : Int) = k) && decide (tokN l = l.length)

theorem isTok_iff (k : Int) (l : List Int) : isTok k l = true ↔ l.length ≤ 6000 ∧ gap false l = 0 ∧ bad l = 0 ∧ (tokK l : Int) = k ∧ tokN l = l.length := by
  simp [isTok, and_assoc]

theorem isTok_scan (k : Int) (l : List Int) (h : isTok k l = true) : scl l 0 0 false [] = ([(tokK l, 0, l.length)], 0, 0) := by
  obtain ⟨_, hg, hb, _, hn⟩ := (isTok_iff k l).1 h
  cases l with
  | nil => simp [bad] at hb
  | cons c r =>
    rw [scl_tok c r 0 [] ((gap_free c r).1 hg) hb, hn, List.drop_length, scl_nil]
    simp

end Go.Proofs.Ytnfigfedijhiiaa.Tk
