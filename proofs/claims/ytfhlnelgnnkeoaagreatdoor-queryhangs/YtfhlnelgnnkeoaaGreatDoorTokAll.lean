/-
  The contract of tokenAt, whole. By the verifier.
-/
import Derived.Test.YtfhlnelgnnkeoaaGreatDoorTokAt
import Derived.Test.YtfhlnelgnnkeoaaGreatDoorScl
namespace Go.Proofs.YtfhlnelgnnkeoaaGreatDoor
open Go.RowKit
set_option linter.unusedVariables false

theorem tokenAt_ok (s : ByteArray) (i : Nat) (w : World) (hs : s.size ≤ maxLen) (hi : i < s.size) (hb : Tk.bad ((Tk.B s).drop i) = 0) :
    Calls Tryz.prog 56 #[.string s, .int .i64 i] w fun e w' => e = .returned (Tk.tokV ((Tk.tokK ((Tk.B s).drop i) : Nat) : Int) i (Tk.tokN ((Tk.B s).drop i)) s) ∧ Below w.heap.size w w' := by
  have hd := Tk.B_drop s i hi
  have hr1 := Tk.run_step Tk.isLD s i hi
  have hr2 := Tk.run_step Tk.isD s i hi
  have ht := Tk.two_at s i hi
  rw [hd] at hb ⊢
  rw [Tk.bad_cons] at hb
  rw [Tk.tokK_cons, Tk.tokN_cons]
  cases h1 : Tk.isL (s[i].toNat : Int)
  · cases h2 : Tk.isD (s[i].toNat : Int)
    · cases h3 : ((s[i].toNat : Int) == 61 && ((Tk.B s).drop (i + 1)).head? == some 61)
      · cases h4 : Tk.isSign (s[i].toNat : Int)
        · rw [h1, h2, h3, h4] at hb; cases hb
        · simp only [Bool.false_eq_true, if_false, if_true]
          exact tokenAt_one s i w hs hi h1 h2 (ht.trans h3) h4
      · simp only [Bool.false_eq_true, if_false, if_true]
        exact tokenAt_two s i w hs hi h1 h2 (ht.trans h3)
    · simp only [Bool.false_eq_true, if_false, if_true]
      simp only [h1, h2, Bool.false_eq_true, if_false, if_true] at hb hr2
      refine tokenAt_num_ok s i _ w hs hi h1 h2 hr2 ?_ ?_
      · apply Classical.byContradiction; intro h; rw [if_pos (by omega)] at hb; cases hb
      · cases h48 : ((s[i].toNat : Int) == 48)
        · exact Or.inl rfl
        · right
          apply Classical.byContradiction; intro h
          have h7 : ¬ 7 < Tk.run Tk.isD ((Tk.B s).drop (i + 1)) + 1 := by intro h'; rw [if_pos h'] at hb; cases hb
          rw [if_neg h7, h48, decide_eq_true (by omega)] at hb
          cases hb
  · simp only [if_true]
    simp only [h1, if_true] at hb
    have hld : Tk.isLD (s[i].toNat : Int) = true := by simp [Tk.isLD, h1]
    rw [hld] at hr1
    refine tokenAt_name_ok s i _ w hs hi h1 hr1 ?_
    apply Classical.byContradiction; intro h; rw [if_pos (by omega)] at hb; cases hb

theorem tokenAt_bad (s : ByteArray) (i : Nat) (w : World) (hs : s.size ≤ maxLen) (hi : i < s.size) (hb : Tk.bad ((Tk.B s).drop i) ≠ 0) :
    Calls Tryz.prog 56 #[.string s, .int .i64 i] w fun e w' => e = .panicked (Tk.gaveUp i ((Tk.bad ((Tk.B s).drop i) : Nat) : Int)) ∧ Below w.heap.size w w' := by
  have hd := Tk.B_drop s i hi
  have hr1 := Tk.run_step Tk.isLD s i hi
  have hr2 := Tk.run_step Tk.isD s i hi
  have ht := Tk.two_at s i hi
  rw [hd] at hb ⊢
  rw [Tk.bad_cons] at hb ⊢
  cases h1 : Tk.isL (s[i].toNat : Int)
  · cases h2 : Tk.isD (s[i].toNat : Int)
    · cases h3 : ((s[i].toNat : Int) == 61 && ((Tk.B s).drop (i + 1)).head? == some 61)
      · cases h4 : Tk.isSign (s[i].toNat : Int)
        · simp only [Bool.false_eq_true, if_false]
          exact tokenAt_none s i w hs hi h1 h2 (ht.trans h3) h4
        · rw [h1, h2, h3, h4] at hb; exact absurd rfl hb
      · rw [h1, h2, h3] at hb; exact absurd rfl hb
    · simp only [h1, h2, Bool.false_eq_true, if_false, if_true] at hb hr2 ⊢
      by_cases h7 : 7 < Tk.run Tk.isD ((Tk.B s).drop (i + 1)) + 1
      · rw [if_pos h7]
        exact tokenAt_num_many s i _ w hs hi h1 h2 hr2 h7
      · rw [if_neg h7] at hb ⊢
        cases h48 : ((s[i].toNat : Int) == 48 && decide (1 < Tk.run Tk.isD ((Tk.B s).drop (i + 1)) + 1))
        · rw [h48] at hb; exact absurd rfl hb
        · simp only [if_true]
          rw [Bool.and_eq_true] at h48
          exact tokenAt_num_nought s i _ w hs hi h1 h2 hr2 (by omega) h48.1 (of_decide_eq_true h48.2)
  · simp only [h1, if_true] at hb ⊢
    have hld : Tk.isLD (s[i].toNat : Int) = true := by simp [Tk.isLD, h1]
    rw [hld] at hr1
    by_cases h12 : 12 < Tk.run Tk.isLD ((Tk.B s).drop (i + 1)) + 1
    · rw [if_pos h12]
      exact tokenAt_name_many s i _ w hs hi h1 hr1 h12
    · rw [if_neg h12] at hb; exact absurd rfl hb

end Go.Proofs.YtfhlnelgnnkeoaaGreatDoor
