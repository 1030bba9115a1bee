/-
  What Scan answers, as a plain function. By the verifier.
-/
import Derived.Test.YtfhlnelgnnkeoaaGreatDoorPlain
namespace Go.Proofs.YtfhlnelgnnkeoaaGreatDoor.Tk
set_option linter.unusedVariables false

/-- Through a text's bytes: where it is; how many bytes of a token are still to be passed; whether within a remark; the tokens so far (kind, place, length). -/
def scl : List Int → Nat → Nat → Bool → List (Nat × Nat × Nat) → List (Nat × Nat × Nat) × Nat × Nat
  | [], _, _, _, acc => (acc, 0, 0)
  | _ :: r, pos, skip + 1, note, acc => scl r (pos + 1) skip note acc
  | c :: r, pos, 0, note, acc =>
    if note || c == 35 then scl r (pos + 1) 0 (!(c == 10)) acc
    else if c == 32 || c == 9 || c == 10 then scl r (pos + 1) 0 false acc
    else if bad (c :: r) = 0 then scl r (pos + 1) (tokN (c :: r) - 1) false (acc ++ [(tokK (c :: r), pos, tokN (c :: r))])
    else ([], pos, bad (c :: r))

theorem scl_nil (pos k : Nat) (b : Bool) (acc : List (Nat × Nat × Nat)) : scl [] pos k b acc = (acc, 0, 0) := by cases k <;> cases b <;> rfl

theorem scl_note (c : Int) (r : List Int) (pos : Nat) (acc : List (Nat × Nat × Nat)) : scl (c :: r) pos 0 true acc = scl r (pos + 1) 0 (!(c == 10)) acc := by simp [scl]
theorem scl_hash (c : Int) (r : List Int) (pos : Nat) (b : Bool) (acc : List (Nat × Nat × Nat)) (h : (c == 35) = true) : scl (c :: r) pos 0 b acc = scl r (pos + 1) 0 (!(c == 10)) acc := by simp [scl, h]
theorem scl_blank (c : Int) (r : List Int) (pos : Nat) (acc : List (Nat × Nat × Nat)) (h35 : (c == 35) = false) (h : (c == 32 || c == 9 || c == 10) = true) : scl (c :: r) pos 0 false acc = scl r (pos + 1) 0 false acc := by
  rw [scl]; simp only [h35, h, Bool.false_or, Bool.false_eq_true, if_false, if_true]
theorem scl_skip1 (c : Int) (r : List Int) (pos k : Nat) (b : Bool) (acc : List (Nat × Nat × Nat)) : scl (c :: r) pos (k + 1) b acc = scl r (pos + 1) k b acc := by cases b <;> simp [scl]

theorem scl_gap (l : List Int) : ∀ (pos : Nat) (b : Bool) (acc : List (Nat × Nat × Nat)), scl l pos 0 b acc = scl (l.drop (gap b l)) (pos + gap b l) 0 false acc := by
  induction l with
  | nil => intro pos b acc; rw [List.drop_nil, scl_nil, scl_nil]
  | cons c r ih =>
    intro pos b acc
    cases b with
    | true =>
      rw [scl_note, ih]
      cases h : (c == 10)
      · simp only [gap, h, Bool.not_false, Bool.false_eq_true, if_false, List.drop_succ_cons]
        rw [show pos + 1 + gap true r = pos + (gap true r + 1) from by omega]
      · simp only [gap, h, Bool.not_true, if_true, List.drop_succ_cons]
        rw [show pos + 1 + gap false r = pos + (gap false r + 1) from by omega]
    | false =>
      cases hb : (c == 32 || c == 9 || c == 10)
      · cases h35 : (c == 35)
        · simp [gap, hb, h35]
        · have h10 : (c == 10) = false := by
            have : c = 35 := by simpa using h35
            subst this; rfl
          rw [scl_hash c r pos false acc h35, ih, h10]
          simp only [gap, hb, h35, Bool.not_false, Bool.false_eq_true, if_false, if_true, List.drop_succ_cons]
          rw [show pos + 1 + gap true r = pos + (gap true r + 1) from by omega]
      · have h35 : (c == 35) = false := by
          cases h : (c == 35)
          · rfl
          · have : c = 35 := by simpa using h
            subst this; cases hb
        rw [scl_blank c r pos acc h35 hb, ih]
        simp only [gap, hb, if_true, List.drop_succ_cons]
        rw [show pos + 1 + gap false r = pos + (gap false r + 1) from by omega]

theorem gap_gap (l : List Int) : ∀ b : Bool, gap false (l.drop (gap b l)) = 0 := by
  induction l with
  | nil => intro b; cases b <;> rfl
  | cons c r ih =>
    intro b
    cases b with
    | true =>
      cases h : (c == 10)
      · simp only [gap, h, Bool.false_eq_true, if_false, List.drop_succ_cons]; exact ih true
      · simp only [gap, h, if_true, List.drop_succ_cons]; exact ih false
    | false =>
      cases hb : (c == 32 || c == 9 || c == 10)
      · cases h35 : (c == 35)
        · have e : gap false (c :: r) = 0 := by simp [gap, hb, h35]
          rw [e]; exact e
        · simp only [gap, hb, h35, Bool.false_eq_true, if_false, if_true, List.drop_succ_cons]; exact ih true
      · simp only [gap, hb, if_true, List.drop_succ_cons]; exact ih false

theorem scl_skip (k : Nat) : ∀ (l : List Int) (pos : Nat) (b : Bool) (acc : List (Nat × Nat × Nat)), scl l pos k b acc = scl (l.drop k) (pos + k) 0 b acc := by
  induction k with
  | zero => intro l pos b acc; rfl
  | succ k ih =>
    intro l pos b acc
    cases l with
    | nil => rw [scl_nil, List.drop_nil, scl_nil]
    | cons c r =>
      rw [scl_skip1, ih, List.drop_succ_cons]
      rw [show pos + 1 + k = pos + (k + 1) from by omega]

/-- Where a token may begin. -/
def free (c : Int) : Bool := !(c == 32 || c == 9 || c == 10) && !(c == 35)

theorem gap_free (c : Int) (r : List Int) : gap false (c :: r) = 0 ↔ free c = true := by
  cases hb : (c == 32 || c == 9 || c == 10) <;> cases h35 : (c == 35) <;> simp [gap, free, hb, h35]

theorem bad_cons (c : Int) (r : List Int) : bad (c :: r) = if isL c then (if 12 < run isLD r + 1 then 2 else 0) else if isD c then (if 7 < run isD r + 1 then 2 else if c == 48 && decide (1 < run isD r + 1) then 1 else 0)
    else if c == 61 && r.head? == some 61 then 0 else if isSign c then 0 else 1 := rfl
theorem tokN_cons (c : Int) (r : List Int) : tokN (c :: r) = if isL c then run isLD r + 1 else if isD c then run isD r + 1 else if c == 61 && r.head? == some 61 then 2 else if isSign c then 1 else 0 := rfl
theorem tokK_cons (c : Int) (r : List Int) : tokK (c :: r) = if isL c then 1 else if isD c then 2 else if c == 61 && r.head? == some 61 then 3 else if isSign c then 3 else 0 := rfl

theorem tokN_pos (c : Int) (r : List Int) (h : bad (c :: r) = 0) : 0 < tokN (c :: r) := by
  rw [bad_cons] at h; rw [tokN_cons]
  cases h1 : isL c
  · cases h2 : isD c
    · cases h3 : (c == 61 && r.head? == some 61)
      · cases h4 : isSign c
        · simp [h1, h2, h3, h4] at h
        · simp
      · simp
    · simp
  · simp

theorem tokN_le (l : List Int) : tokN l ≤ l.length := by
  cases l with
  | nil => exact Nat.le_refl _
  | cons c r =>
    have e1 := run_le isLD r
    have e2 := run_le isD r
    rw [tokN_cons, List.length_cons]
    cases h1 : isL c
    · cases h2 : isD c
      · cases h3 : (c == 61 && r.head? == some 61)
        · cases h4 : isSign c <;> simp
        · cases r with
          | nil => simp at h3
          | cons d q => simp
      · simp; omega
    · simp; omega

theorem scl_tok (c : Int) (r : List Int) (pos : Nat) (acc : List (Nat × Nat × Nat)) (hf : free c = true) (hb : bad (c :: r) = 0) :
    scl (c :: r) pos 0 false acc = scl ((c :: r).drop (tokN (c :: r))) (pos + tokN (c :: r)) 0 false (acc ++ [(tokK (c :: r), pos, tokN (c :: r))]) := by
  have hp := tokN_pos c r hb
  have hb2 : (c == 32 || c == 9 || c == 10) = false := by unfold free at hf; revert hf; cases (c == 32 || c == 9 || c == 10) <;> simp
  have h35 : (c == 35) = false := by unfold free at hf; revert hf; cases (c == 35) <;> simp
  have e : scl (c :: r) pos 0 false acc = scl r (pos + 1) (tokN (c :: r) - 1) false (acc ++ [(tokK (c :: r), pos, tokN (c :: r))]) := by
    rw [scl]; simp [h35, hb2, hb]
  rw [e, scl_skip]
  obtain ⟨m, hm⟩ : ∃ m, tokN (c :: r) = m + 1 := ⟨tokN (c :: r) - 1, by omega⟩
  rw [hm, List.drop_succ_cons, Nat.add_sub_cancel, show pos + 1 + m = pos + (m + 1) from by omega]

theorem scl_bad (c : Int) (r : List Int) (pos : Nat) (acc : List (Nat × Nat × Nat)) (hf : free c = true) (hb : bad (c :: r) ≠ 0) :
    scl (c :: r) pos 0 false acc = ([], pos, bad (c :: r)) := by
  have hb2 : (c == 32 || c == 9 || c == 10) = false := by unfold free at hf; revert hf; cases (c == 32 || c == 9 || c == 10) <;> simp
  have h35 : (c == 35) = false := by unfold free at hf; revert hf; cases (c == 35) <;> simp
  rw [scl]; simp [h35, hb2, hb]

end Go.Proofs.YtfhlnelgnnkeoaaGreatDoor.Tk
