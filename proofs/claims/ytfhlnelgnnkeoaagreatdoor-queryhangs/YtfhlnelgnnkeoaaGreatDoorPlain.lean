/-
  Plain functions on lists of byte values (no program, no model): what the tokens of a text are. By the verifier.
-/
namespace Go.Proofs.YtfhlnelgnnkeoaaGreatDoor.Tk
set_option linter.unusedVariables false

def B (s : ByteArray) : List Int := s.data.toList.map fun c => (c.toNat : Int)

theorem B_length (s : ByteArray) : (B s).length = s.size := by
  unfold B; rw [List.length_map]; rfl

theorem B_drop (s : ByteArray) (k : Nat) (h : k < s.size) : (B s).drop k = (s[k].toNat : Int) :: (B s).drop (k + 1) := by
  have h1 : k < (B s).length := by rw [B_length]; exact h
  rw [List.drop_eq_getElem_cons h1]
  congr 1
  simp [B]
  rfl

theorem B_drop_end (s : ByteArray) (k : Nat) (h : s.size ≤ k) : (B s).drop k = [] :=
  List.drop_eq_nil_of_le (by rw [B_length]; exact h)

def isL (c : Int) : Bool := decide (97 ≤ c ∧ c ≤ 122)
def isD (c : Int) : Bool := decide (48 ≤ c ∧ c ≤ 57)
def isLD (c : Int) : Bool := isL c || isD c
def notNl (c : Int) : Bool := !(c == 10)

/-- How many at the head of a list go on. -/
def run (p : Int → Bool) : List Int → Nat
  | [] => 0
  | c :: r => if p c then run p r + 1 else 0

theorem run_le (p : Int → Bool) (l : List Int) : run p l ≤ l.length := by
  induction l with
  | nil => simp [run]
  | cons c r ih => simp only [run]; split <;> simp <;> omega

/-- How many bytes lie ahead of the next token: blanks and remarks ('true': within a remark). -/
def gap : Bool → List Int → Nat
  | _, [] => 0
  | true, c :: r => if c == 10 then gap false r + 1 else gap true r + 1
  | false, c :: r => if c == 32 || c == 9 || c == 10 then gap false r + 1 else if c == 35 then gap true r + 1 else 0

theorem gap_le (b : Bool) (l : List Int) : gap b l ≤ l.length := by
  induction l generalizing b with
  | nil => cases b <;> simp [gap]
  | cons c r ih =>
    have h1 := ih true
    have h2 := ih false
    cases b <;> simp only [gap] <;> repeat (first | split | (simp; done) | (simp; omega))

/-- A remark is its run up to the line feed, then a gap again. -/
theorem gap_true (l : List Int) : gap true l = run notNl l + gap false (l.drop (run notNl l)) := by
  induction l with
  | nil => simp [gap, run]
  | cons c r ih =>
    by_cases h : c = 10
    · subst h
      simp [gap, run, notNl]
    · simp [gap, run, notNl, h]
      omega

def signs : List Int := [123, 125, 40, 41, 91, 93, 59, 44, 61, 43, 45, 42, 47, 37, 60]
def isSign (c : Int) : Bool := signs.contains c

/-- The token at a list's head: its kind, its length; 0: none. -/
def tokK : List Int → Nat
  | [] => 0
  | c :: r => if isL c then 1 else if isD c then 2 else if c == 61 && r.head? == some 61 then 3 else if isSign c then 3 else 0
def tokN : List Int → Nat
  | [] => 0
  | c :: r => if isL c then run isLD r + 1 else if isD c then run isD r + 1 else if c == 61 && r.head? == some 61 then 2 else if isSign c then 1 else 0
/-- What is wrong with it; 0: nothing. -/
def bad : List Int → Nat
  | [] => 1
  | c :: r => if isL c then (if 12 < run isLD r + 1 then 2 else 0) else if isD c then (if 7 < run isD r + 1 then 2 else if c == 48 && decide (1 < run isD r + 1) then 1 else 0)
    else if c == 61 && r.head? == some 61 then 0 else if isSign c then 0 else 1

end Go.Proofs.YtfhlnelgnnkeoaaGreatDoor.Tk
