/-
  What is joined is scanned as it was, and what is scanned are tokens: plain. By the verifier.
-/
import Derived.Test.YtnfigfedijhiiaaIsTok
namespace Go.Proofs.Ytnfigfedijhiiaa.Tk
set_option linter.unusedVariables false

/-- Nothing, or a blank ahead. -/
def apart (r : List Int) : Prop := r = [] ∨ ∃ q, r = 32 :: q

theorem run_apart (p : Int → Bool) (h32 : p 32 = false) (r : List Int) (hr : apart r) : ∀ q : List Int, run p q = q.length → run p (q ++ r) = q.length := by
  intro q
  induction q with
  | nil =>
    intro _
    rcases hr with rfl | ⟨x, rfl⟩
    · rfl
    · simp [run, h32]
  | cons c q ih =>
    intro h
    simp only [run, List.length_cons] at h
    cases hc : p c
    · rw [hc] at h; simp at h
    · rw [hc] at h
      simp only [if_true] at h
      simp only [List.cons_append, run, hc, if_true, List.length_cons]
      rw [ih (by omega)]

theorem tok_apart (c : Int) (q r : List Int) (hr : apart r) (hn : tokN (c :: q) = (c :: q).length) (hb : bad (c :: q) = 0) :
    tokN (c :: q ++ r) = (c :: q).length ∧ tokK (c :: q ++ r) = tokK (c :: q) ∧ bad (c :: q ++ r) = 0 := by
  rw [tokN_cons, List.length_cons] at hn
  rw [bad_cons] at hb
  rw [List.cons_append, tokN_cons, tokK_cons, tokK_cons, bad_cons, List.length_cons]
  cases h1 : isL c
  · cases h2 : isD c
    · rw [h1, h2] at hn hb
      simp only [Bool.false_eq_true, if_false] at hn hb ⊢
      cases h3 : (c == 61 && q.head? == some 61)
      · rw [h3] at hn hb
        simp only [Bool.false_eq_true, if_false] at hn hb ⊢
        cases h4 : isSign c
        · rw [h4] at hb; simp at hb
        · rw [h4] at hn
          simp only [if_true] at hn
          have hq : q = [] := List.eq_nil_of_length_eq_zero (by omega)
          subst hq
          have hh : (c == 61 && ([] ++ r).head? == some 61) = false := by
            rcases hr with rfl | ⟨x, rfl⟩
            · simp
            · simp
          rw [hh]
          exact ⟨rfl, rfl, rfl⟩
      · rw [h3] at hn
        simp only [if_true] at hn
        match q, hn with
        | [d], _ =>
          have hh : (c == 61 && ([d] ++ r).head? == some 61) = true := h3
          rw [hh]
          exact ⟨rfl, rfl, rfl⟩
    · rw [h1, h2] at hn hb
      simp only [Bool.false_eq_true, if_false, if_true] at hn hb ⊢
      have hru := run_apart isD (by decide) r hr q (by omega)
      have hrq : run isD q = q.length := by omega
      rw [hru]
      rw [hrq] at hb
      exact ⟨rfl, trivial, hb⟩
  · rw [h1] at hn hb
    simp only [if_true] at hn hb ⊢
    have hru := run_apart isLD (by decide) r hr q (by omega)
    have hrq : run isLD q = q.length := by omega
    rw [hru]
    rw [hrq] at hb
    exact ⟨rfl, trivial, hb⟩

theorem run_take (p : Int → Bool) : ∀ r : List Int, run p (r.take (run p r)) = run p r ∧ (r.take (run p r)).length = run p r := by
  intro r
  induction r with
  | nil => exact ⟨rfl, rfl⟩
  | cons c r ih =>
    cases hc : p c
    · simp [run, hc]
    · simp only [run, hc, if_true, List.take_succ_cons, List.length_cons]
      exact ⟨by rw [ih.1], by rw [ih.2]⟩

theorem tok_take (c : Int) (r : List Int) (hf : free c = true) (hb : bad (c :: r) = 0) : isTok ((tokK (c :: r) : Nat) : Int) ((c :: r).take (tokN (c :: r))) = true := by
  have hp := tokN_pos c r hb
  have hle := tokN_le (c :: r)
  have hlen : ((c :: r).take (tokN (c :: r))).length = tokN (c :: r) := by rw [List.length_take]; omega
  obtain ⟨m, hm⟩ : ∃ m, tokN (c :: r) = m + 1 := ⟨tokN (c :: r) - 1, by omega⟩
  have ht : (c :: r).take (tokN (c :: r)) = c :: r.take m := by rw [hm, List.take_succ_cons]
  rw [isTok_iff, hlen]
  have key : tokN (c :: r) ≤ 6000 ∧ bad (c :: r.take m) = 0 ∧ tokK (c :: r.take m) = tokK (c :: r) ∧ tokN (c :: r.take m) = tokN (c :: r) := by
    rw [bad_cons] at hb
    rw [bad_cons, tokK_cons, tokK_cons, tokN_cons (c := c) (r := r.take m)]
    have hN := tokN_cons c r
    cases h1 : isL c
    · cases h2 : isD c
      · rw [h1, h2] at hN hb
        simp only [Bool.false_eq_true, if_false] at hN hb ⊢
        cases h3 : (c == 61 && r.head? == some 61)
        · rw [h3] at hN hb
          simp only [Bool.false_eq_true, if_false] at hN hb ⊢
          cases h4 : isSign c
          · rw [h4] at hb; simp at hb
          · rw [h4] at hN
            simp only [if_true] at hN
            have hm0 : m = 0 := by omega
            subst hm0
            have hh : (c == 61 && (r.take 0).head? == some 61) = false := by simp
            rw [hh, hN]
            exact ⟨by omega, rfl, rfl, rfl⟩
        · rw [h3] at hN
          simp only [if_true] at hN
          have hm0 : m = 1 := by omega
          subst hm0
          have hh : (c == 61 && (r.take 1).head? == some 61) = true := by
            cases r with
            | nil => simp at h3
            | cons d q => simpa using h3
          rw [hh, hN]
          exact ⟨by omega, rfl, rfl, rfl⟩
      · rw [h1, h2] at hN hb
        simp only [Bool.false_eq_true, if_false, if_true] at hN hb ⊢
        have hm0 : m = run isD r := by omega
        subst hm0
        rw [(run_take isD r).1]
        have h7 : ¬ 7 < run isD r + 1 := by intro h; rw [if_pos h] at hb; cases hb
        exact ⟨by omega, hb, trivial, by omega⟩
    · rw [h1] at hN hb
      simp only [if_true] at hN hb ⊢
      have hm0 : m = run isLD r := by omega
      subst hm0
      rw [(run_take isLD r).1]
      have h7 : ¬ 12 < run isLD r + 1 := by intro h; rw [if_pos h] at hb; cases hb
      exact ⟨by omega, hb, trivial, by omega⟩
  rw [ht]
  obtain ⟨k1, k2, k3, k4⟩ := key
  exact ⟨k1, (gap_free c _).2 hf, k2, by rw [k3], k4⟩

/-- What is scanned are tokens. -/
theorem scl_toks (l : List Int) : ∀ (pos k : Nat) (b : Bool) (acc : List (Nat × Nat × Nat)), (scl l pos k b acc).2.2 = 0 →
    ∃ m, (scl l pos k b acc).1 = acc ++ m ∧ ∀ t ∈ m, ∃ j, t.2.1 = pos + j ∧ isTok (t.1 : Int) ((l.drop j).take t.2.2) = true := by
  induction l with
  | nil => intro pos k b acc _; rw [scl_nil]; exact ⟨[], by simp, fun t ht => by cases ht⟩
  | cons c r ih =>
    intro pos k b acc h
    have up : ∀ m : List (Nat × Nat × Nat), (∀ t ∈ m, ∃ j, t.2.1 = pos + 1 + j ∧ isTok (t.1 : Int) ((r.drop j).take t.2.2) = true) → ∀ t ∈ m, ∃ j, t.2.1 = pos + j ∧ isTok (t.1 : Int) (((c :: r).drop j).take t.2.2) = true := by
      intro m hm t ht
      obtain ⟨j, h1, h2⟩ := hm t ht
      exact ⟨j + 1, by omega, by rw [List.drop_succ_cons]; exact h2⟩
    cases k with
    | succ k =>
      rw [scl_skip1] at h ⊢
      obtain ⟨m, h1, h2⟩ := ih _ _ _ _ h
      exact ⟨m, h1, up m h2⟩
    | zero =>
      rw [scl] at h ⊢
      split at h
      · rename_i h1
        rw [if_pos h1]
        obtain ⟨m, h1, h2⟩ := ih _ _ _ _ h
        exact ⟨m, h1, up m h2⟩
      · rename_i h1
        rw [if_neg h1]
        split at h
        · rename_i h2
          rw [if_pos h2]
          obtain ⟨m, h1, h2⟩ := ih _ _ _ _ h
          exact ⟨m, h1, up m h2⟩
        · rename_i h2
          rw [if_neg h2]
          split at h
          · rename_i h3
            rw [if_pos h3]
            obtain ⟨m, h4, h5⟩ := ih _ _ _ _ h
            refine ⟨[(tokK (c :: r), pos, tokN (c :: r))] ++ m, by rw [h4, List.append_assoc], ?_⟩
            intro t ht
            rcases List.mem_append.1 ht with ht | ht
            · rw [List.mem_singleton] at ht
              subst ht
              refine ⟨0, rfl, tok_take c r ?_ h3⟩
              unfold free
              rw [Bool.or_eq_true, not_or] at h1
              have e35 : (c == 35) = false := Bool.eq_false_iff.2 h1.2
              rw [Bool.eq_false_iff.2 h2, e35]; rfl
            · exact up m h5 t ht
          · rename_i h3
            exact absurd h h3

end Go.Proofs.Ytnfigfedijhiiaa.Tk
