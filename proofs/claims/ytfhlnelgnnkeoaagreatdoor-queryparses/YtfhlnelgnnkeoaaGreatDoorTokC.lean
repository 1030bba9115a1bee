/-
  Several texts in one: IsTok, BackLem, Ord. By the verifier.
-/
import Derived.Test.YtfhlnelgnnkeoaaGreatDoorTokB
namespace Go.Proofs.YtfhlnelgnnkeoaaGreatDoor.Tk
set_option linter.unusedVariables false

theorem scl_prefix (l : List Int) : ∀ (pos k : Nat) (b : Bool) (acc : List (Nat × Nat × Nat)), (scl l pos k b acc).2.2 = 0 → ∃ m, (scl l pos k b acc).1 = acc ++ m := by
  induction l with
  | nil => intro pos k b acc _; rw [scl_nil]; exact ⟨[], by simp⟩
  | cons c r ih =>
    intro pos k b acc h
    cases k with
    | succ k => rw [scl_skip1] at h ⊢; exact ih _ _ _ _ h
    | zero =>
      rw [scl] at h ⊢
      split at h
      · rename_i h1; rw [if_pos h1]; exact ih _ _ _ _ h
      · rename_i h1
        rw [if_neg h1]
        split at h
        · rename_i h2; rw [if_pos h2]; exact ih _ _ _ _ h
        · rename_i h2
          rw [if_neg h2]
          split at h
          · rename_i h3
            rw [if_pos h3]
            obtain ⟨m, hm⟩ := ih _ _ _ _ h
            exact ⟨[_] ++ m, by rw [hm, List.append_assoc]⟩
          · rename_i h3
            exact absurd h h3

theorem scl_first (l : List Int) (pos : Nat) (h0 : (scl l pos 0 false []).2.2 = 0) (h1 : (scl l pos 0 false []).1.length = 1) :
    ∃ c r, l.drop (gap false l) = c :: r ∧ free c = true ∧ bad (c :: r) = 0 ∧ (scl l pos 0 false []).1 = [(tokK (c :: r), pos + gap false l, tokN (c :: r))] := by
  have hg := gap_gap l false
  rw [scl_gap] at h0 h1 ⊢
  generalize l.drop (gap false l) = m at *
  generalize pos + gap false l = p at *
  cases m with
  | nil => rw [scl_nil] at h1; simp at h1
  | cons c r =>
    have hf := (gap_free c r).1 hg
    by_cases hb : bad (c :: r) = 0
    · refine ⟨c, r, rfl, hf, hb, ?_⟩
      rw [scl_tok c r p [] hf hb] at h0 h1 ⊢
      obtain ⟨m, hm⟩ := scl_prefix _ _ _ _ _ h0
      rw [hm] at h1 ⊢
      simp at h1
      subst h1
      simp
    · rw [scl_bad c r p [] hf hb] at h0
      exact absurd h0 hb

/-- Is a text of so many bytes one token of this kind? -/
def isTok (k : Int) (l : List Int) : Bool :=
  decide (l.length ≤ 6000) && decide (gap false l = 0) && decide (bad l = 0) && decide ((tokK l : Int) = k) && decide (tokN l = l.length)

theorem isTok_iff (k : Int) (l : List Int) : isTok k l = true ↔ l.length ≤ 6000 ∧ gap false l = 0 ∧ bad l = 0 ∧ (tokK l : Int) = k ∧ tokN l = l.length := by
  simp [isTok, and_assoc]

theorem isTok_scan (k : Int) (l : List Int) (h : isTok k l = true) : scl l 0 0 false [] = ([(tokK l, 0, l.length)], 0, 0) := by
  obtain ⟨_, hg, hb, _, hn⟩ := (isTok_iff k l).1 h
  cases l with
  | nil => simp [bad] at hb
  | cons c r =>
    rw [scl_tok c r 0 [] ((gap_free c r).1 hg) hb, hn, List.drop_length, scl_nil]
    simp

end Go.Proofs.YtfhlnelgnnkeoaaGreatDoor.Tk
namespace Go.Proofs.YtfhlnelgnnkeoaaGreatDoor.Tk
set_option linter.unusedVariables false

/-- Nothing, or a blank ahead. -/
def apart (r : List Int) : Prop := r = [] ∨ ∃ q, r = 32 :: q

theorem run_apart (p : Int → Bool) (h32 : p 32 = false) (r : List Int) (hr : apart r) : ∀ q : List Int, run p q = q.length → run p (q ++ r) = q.length := by
  intro q
  induction q with
  | nil =>
    intro _
    rcases hr with rfl | ⟨x, rfl⟩
    · rfl
    · simp [run, h32]
  | cons c q ih =>
    intro h
    simp only [run, List.length_cons] at h
    cases hc : p c
    · rw [hc] at h; simp at h
    · rw [hc] at h
      simp only [if_true] at h
      simp only [List.cons_append, run, hc, if_true, List.length_cons]
      rw [ih (by omega)]

theorem tok_apart (c : Int) (q r : List Int) (hr : apart r) (hn : tokN (c :: q) = (c :: q).length) (hb : bad (c :: q) = 0) :
    tokN (c :: q ++ r) = (c :: q).length ∧ tokK (c :: q ++ r) = tokK (c :: q) ∧ bad (c :: q ++ r) = 0 := by
  rw [tokN_cons, List.length_cons] at hn
  rw [bad_cons] at hb
  rw [List.cons_append, tokN_cons, tokK_cons, tokK_cons, bad_cons, List.length_cons]
  cases h1 : isL c
  · cases h2 : isD c
    · rw [h1, h2] at hn hb
      simp only [Bool.false_eq_true, if_false] at hn hb ⊢
      cases h3 : (c == 61 && q.head? == some 61)
      · rw [h3] at hn hb
        simp only [Bool.false_eq_true, if_false] at hn hb ⊢
        cases h4 : isSign c
        · rw [h4] at hb; simp at hb
        · rw [h4] at hn
          simp only [if_true] at hn
          have hq : q = [] := List.eq_nil_of_length_eq_zero (by omega)
          subst hq
          have hh : (c == 61 && ([] ++ r).head? == some 61) = false := by
            rcases hr with rfl | ⟨x, rfl⟩
            · simp
            · simp
          rw [hh]
          exact ⟨rfl, rfl, rfl⟩
      · rw [h3] at hn
        simp only [if_true] at hn
        match q, hn with
        | [d], _ =>
          have hh : (c == 61 && ([d] ++ r).head? == some 61) = true := h3
          rw [hh]
          exact ⟨rfl, rfl, rfl⟩
    · rw [h1, h2] at hn hb
      simp only [Bool.false_eq_true, if_false, if_true] at hn hb ⊢
      have hru := run_apart isD (by decide) r hr q (by omega)
      have hrq : run isD q = q.length := by omega
      rw [hru]
      rw [hrq] at hb
      exact ⟨rfl, trivial, hb⟩
  · rw [h1] at hn hb
    simp only [if_true] at hn hb ⊢
    have hru := run_apart isLD (by decide) r hr q (by omega)
    have hrq : run isLD q = q.length := by omega
    rw [hru]
    rw [hrq] at hb
    exact ⟨rfl, trivial, hb⟩

theorem run_take (p : Int → Bool) : ∀ r : List Int, run p (r.take (run p r)) = run p r ∧ (r.take (run p r)).length = run p r := by
  intro r
  induction r with
  | nil => exact ⟨rfl, rfl⟩
  | cons c r ih =>
    cases hc : p c
    · simp [run, hc]
    · simp only [run, hc, if_true, List.take_succ_cons, List.length_cons]
      exact ⟨by rw [ih.1], by rw [ih.2]⟩

theorem tok_take (c : Int) (r : List Int) (hf : free c = true) (hb : bad (c :: r) = 0) : isTok ((tokK (c :: r) : Nat) : Int) ((c :: r).take (tokN (c :: r))) = true := by
  have hp := tokN_pos c r hb
  have hle := tokN_le (c :: r)
  have hlen : ((c :: r).take (tokN (c :: r))).length = tokN (c :: r) := by rw [List.length_take]; omega
  obtain ⟨m, hm⟩ : ∃ m, tokN (c :: r) = m + 1 := ⟨tokN (c :: r) - 1, by omega⟩
  have ht : (c :: r).take (tokN (c :: r)) = c :: r.take m := by rw [hm, List.take_succ_cons]
  rw [isTok_iff, hlen]
  have key : tokN (c :: r) ≤ 6000 ∧ bad (c :: r.take m) = 0 ∧ tokK (c :: r.take m) = tokK (c :: r) ∧ tokN (c :: r.take m) = tokN (c :: r) := by
    rw [bad_cons] at hb
    rw [bad_cons, tokK_cons, tokK_cons, tokN_cons (c := c) (r := r.take m)]
    have hN := tokN_cons c r
    cases h1 : isL c
    · cases h2 : isD c
      · rw [h1, h2] at hN hb
        simp only [Bool.false_eq_true, if_false] at hN hb ⊢
        cases h3 : (c == 61 && r.head? == some 61)
        · rw [h3] at hN hb
          simp only [Bool.false_eq_true, if_false] at hN hb ⊢
          cases h4 : isSign c
          · rw [h4] at hb; simp at hb
          · rw [h4] at hN
            simp only [if_true] at hN
            have hm0 : m = 0 := by omega
            subst hm0
            have hh : (c == 61 && (r.take 0).head? == some 61) = false := by simp
            rw [hh, hN]
            exact ⟨by omega, rfl, rfl, rfl⟩
        · rw [h3] at hN
          simp only [if_true] at hN
          have hm0 : m = 1 := by omega
          subst hm0
          have hh : (c == 61 && (r.take 1).head? == some 61) = true := by
            cases r with
            | nil => simp at h3
            | cons d q => simpa using h3
          rw [hh, hN]
          exact ⟨by omega, rfl, rfl, rfl⟩
      · rw [h1, h2] at hN hb
        simp only [Bool.false_eq_true, if_false, if_true] at hN hb ⊢
        have hm0 : m = run isD r := by omega
        subst hm0
        rw [(run_take isD r).1]
        have h7 : ¬ 7 < run isD r + 1 := by intro h; rw [if_pos h] at hb; cases hb
        exact ⟨by omega, hb, trivial, by omega⟩
    · rw [h1] at hN hb
      simp only [if_true] at hN hb ⊢
      have hm0 : m = run isLD r := by omega
      subst hm0
      rw [(run_take isLD r).1]
      have h7 : ¬ 12 < run isLD r + 1 := by intro h; rw [if_pos h] at hb; cases hb
      exact ⟨by omega, hb, trivial, by omega⟩
  rw [ht]
  obtain ⟨k1, k2, k3, k4⟩ := key
  exact ⟨k1, (gap_free c _).2 hf, k2, by rw [k3], k4⟩

/-- What is scanned are tokens. -/
theorem scl_toks (l : List Int) : ∀ (pos k : Nat) (b : Bool) (acc : List (Nat × Nat × Nat)), (scl l pos k b acc).2.2 = 0 →
    ∃ m, (scl l pos k b acc).1 = acc ++ m ∧ ∀ t ∈ m, ∃ j, t.2.1 = pos + j ∧ isTok (t.1 : Int) ((l.drop j).take t.2.2) = true := by
  induction l with
  | nil => intro pos k b acc _; rw [scl_nil]; exact ⟨[], by simp, fun t ht => by cases ht⟩
  | cons c r ih =>
    intro pos k b acc h
    have up : ∀ m : List (Nat × Nat × Nat), (∀ t ∈ m, ∃ j, t.2.1 = pos + 1 + j ∧ isTok (t.1 : Int) ((r.drop j).take t.2.2) = true) → ∀ t ∈ m, ∃ j, t.2.1 = pos + j ∧ isTok (t.1 : Int) (((c :: r).drop j).take t.2.2) = true := by
      intro m hm t ht
      obtain ⟨j, h1, h2⟩ := hm t ht
      exact ⟨j + 1, by omega, by rw [List.drop_succ_cons]; exact h2⟩
    cases k with
    | succ k =>
      rw [scl_skip1] at h ⊢
      obtain ⟨m, h1, h2⟩ := ih _ _ _ _ h
      exact ⟨m, h1, up m h2⟩
    | zero =>
      rw [scl] at h ⊢
      split at h
      · rename_i h1
        rw [if_pos h1]
        obtain ⟨m, h1, h2⟩ := ih _ _ _ _ h
        exact ⟨m, h1, up m h2⟩
      · rename_i h1
        rw [if_neg h1]
        split at h
        · rename_i h2
          rw [if_pos h2]
          obtain ⟨m, h1, h2⟩ := ih _ _ _ _ h
          exact ⟨m, h1, up m h2⟩
        · rename_i h2
          rw [if_neg h2]
          split at h
          · rename_i h3
            rw [if_pos h3]
            obtain ⟨m, h4, h5⟩ := ih _ _ _ _ h
            refine ⟨[(tokK (c :: r), pos, tokN (c :: r))] ++ m, by rw [h4, List.append_assoc], ?_⟩
            intro t ht
            rcases List.mem_append.1 ht with ht | ht
            · rw [List.mem_singleton] at ht
              subst ht
              refine ⟨0, rfl, tok_take c r ?_ h3⟩
              unfold free
              rw [Bool.or_eq_true, not_or] at h1
              have e35 : (c == 35) = false := Bool.eq_false_iff.2 h1.2
              rw [Bool.eq_false_iff.2 h2, e35]; rfl
            · exact up m h5 t ht
          · rename_i h3
            exact absurd h h3

end Go.Proofs.YtfhlnelgnnkeoaaGreatDoor.Tk
namespace Go.Proofs.YtfhlnelgnnkeoaaGreatDoor.Tk
set_option linter.unusedVariables false

def ordd (size : Nat) : Nat → List (Nat × Nat × Nat) → Prop
  | _, [] => True
  | p, t :: r => p ≤ t.2.1 ∧ 0 < t.2.2 ∧ t.2.1 + t.2.2 ≤ size ∧ ordd size (t.2.1 + t.2.2) r

theorem ordd_le {size p q : Nat} (h : q ≤ p) : ∀ {l : List (Nat × Nat × Nat)}, ordd size p l → ordd size q l := by
  intro l hl
  cases l with
  | nil => trivial
  | cons t r => exact ⟨Nat.le_trans h hl.1, hl.2⟩

theorem scl_ord (l : List Int) : ∀ (pos k : Nat) (b : Bool) (acc : List (Nat × Nat × Nat)), k ≤ l.length → (scl l pos k b acc).2.2 = 0 → ∃ m, (scl l pos k b acc).1 = acc ++ m ∧ ordd (pos + l.length) (pos + k) m := by
  induction l with
  | nil => intro pos k b acc _ _; rw [scl_nil]; exact ⟨[], by simp, trivial⟩
  | cons c r ih =>
    intro pos k b acc hk h
    have el : pos + 1 + r.length = pos + (c :: r).length := by rw [List.length_cons]; omega
    rw [List.length_cons] at hk
    cases k with
    | succ k =>
      rw [scl_skip1] at h ⊢
      obtain ⟨m, h1, h2⟩ := ih _ _ _ _ (by omega) h
      rw [el] at h2
      exact ⟨m, h1, by rw [show pos + (k + 1) = pos + 1 + k from by omega]; exact h2⟩
    | zero =>
      rw [scl] at h ⊢
      split at h
      · rename_i h1
        rw [if_pos h1]
        obtain ⟨m, h1, h2⟩ := ih _ _ _ _ (by omega) h
        rw [el] at h2
        exact ⟨m, h1, ordd_le (by omega) h2⟩
      · rename_i h1
        rw [if_neg h1]
        split at h
        · rename_i h2
          rw [if_pos h2]
          obtain ⟨m, h1, h2⟩ := ih _ _ _ _ (by omega) h
          rw [el] at h2
          exact ⟨m, h1, ordd_le (by omega) h2⟩
        · rename_i h2
          rw [if_neg h2]
          split at h
          · rename_i h3
            rw [if_pos h3]
            have hp := tokN_pos c r h3
            have hn := tokN_le (c :: r)
            rw [List.length_cons] at hn
            obtain ⟨m, h4, h5⟩ := ih _ _ _ _ (by omega) h
            rw [el] at h5
            refine ⟨[(tokK (c :: r), pos, tokN (c :: r))] ++ m, by rw [h4, List.append_assoc], ?_⟩
            exact ⟨by show pos + 0 ≤ pos; omega, hp, by show pos + tokN (c :: r) ≤ _; rw [List.length_cons]; omega, by
              show ordd _ (pos + tokN (c :: r)) m
              rw [show pos + tokN (c :: r) = pos + 1 + (tokN (c :: r) - 1) from by omega]
              exact h5⟩
          · rename_i h3
            exact absurd h h3

theorem scl_err (l : List Int) : ∀ (pos k : Nat) (b : Bool) (acc : List (Nat × Nat × Nat)), (scl l pos k b acc).2.2 ≠ 0 → (scl l pos k b acc).1 = [] := by
  induction l with
  | nil => intro pos k b acc h; rw [scl_nil] at h; exact absurd rfl h
  | cons c r ih =>
    intro pos k b acc h
    cases k with
    | succ k => rw [scl_skip1] at h ⊢; exact ih _ _ _ _ h
    | zero =>
      rw [scl] at h ⊢
      split at h
      · rename_i h1; rw [if_pos h1]; exact ih _ _ _ _ h
      · rename_i h1
        rw [if_neg h1]
        split at h
        · rename_i h2; rw [if_pos h2]; exact ih _ _ _ _ h
        · rename_i h2
          rw [if_neg h2]
          split at h
          · rename_i h3; rw [if_pos h3]; exact ih _ _ _ _ h
          · rename_i h3; rw [if_neg h3]

theorem ordd_length (size : Nat) : ∀ (l : List (Nat × Nat × Nat)) (p : Nat), p ≤ size → ordd size p l → p + l.length ≤ size := by
  intro l
  induction l with
  | nil => intro p hp _; exact hp
  | cons x r ih =>
    intro p hp h
    have := ih _ h.2.2.1 h.2.2.2
    have h1 := h.1
    have h2 := h.2.1
    rw [List.length_cons]
    omega

theorem ordd_drop (size : Nat) : ∀ (l : List (Nat × Nat × Nat)) (p : Nat), ordd size p l → ∀ t ∈ l, p ≤ t.2.1 ∧ 0 < t.2.2 ∧ t.2.1 + t.2.2 ≤ size := by
  intro l
  induction l with
  | nil => intro p _ t ht; cases ht
  | cons x r ih =>
    intro p h t ht
    rcases List.mem_cons.1 ht with e | hr
    · subst e; exact ⟨h.1, h.2.1, h.2.2.1⟩
    · have := ih _ h.2.2.2 t hr
      exact ⟨by have := h.1; omega, this.2.1, this.2.2⟩

end Go.Proofs.YtfhlnelgnnkeoaaGreatDoor.Tk
