/-
  The contract of IsToken of the document's answer. By the verifier.
-/
import Derived.Test.YtnfigfedijhiiaaRefScan
import Derived.Test.YtnfigfedijhiiaaIsTok
namespace Go.Proofs.Ytnfigfedijhiiaa
open Go.RowKit
set_option linter.unusedVariables false

theorem Tk.tok_free (c : Int) (r : List Int) (h : Tk.tokK (c :: r) ≠ 0) : Tk.gap false (c :: r) = 0 := by
  rw [Tk.gap_free]
  rw [Tk.tokK_cons] at h
  by_cases hc : c = 32 ∨ c = 9 ∨ c = 10 ∨ c = 35
  · exfalso
    apply h
    rcases hc with rfl | rfl | rfl | rfl <;> rfl
  · simp [Tk.free]; omega

theorem Tk.isTok_size (k : Int) (t : ByteArray) (h : ¬ t.size ≤ 6000) : Tk.isTok k (Tk.B t) = false := by
  apply Bool.eq_false_iff.2
  intro hh
  have := ((Tk.isTok_iff _ _).1 hh).1
  rw [Tk.B_length] at this
  exact h this

theorem Tk.isTok_zero (l : List Int) : Tk.isTok 0 l = false := by
  apply Bool.eq_false_iff.2
  intro hh
  obtain ⟨_, _, hb, hk, _⟩ := (Tk.isTok_iff _ _).1 hh
  cases l with
  | nil => cases hb
  | cons c r =>
    have := Tk.bad_kinds c r
    omega

theorem Tk.isTok_cons (k : Int) (c : Int) (r : List Int) (hl : (c :: r).length ≤ 6000) (hk : k ≠ 0) :
    Tk.isTok k (c :: r) = (decide (Tk.bad (c :: r) = 0) && ((Tk.tokK (c :: r) : Int) == k) && ((Tk.tokN (c :: r) : Int) == ((c :: r).length : Int))) := by
  rw [Bool.eq_iff_iff, Tk.isTok_iff]
  simp only [Bool.and_eq_true, decide_eq_true_eq, beq_iff_eq]
  constructor
  · intro ⟨_, _, h3, h4, h5⟩; exact ⟨⟨h3, h4⟩, by omega⟩
  · intro ⟨⟨h3, h4⟩, h5⟩; exact ⟨hl, Tk.tok_free c r (by omega), h3, h4, by omega⟩

theorem ret_bool {a b : Bool} (h : a = b) : Ending.returned (.bool a) = .returned (.bool b) := by rw [h]

theorem Tk.nonempty (t : ByteArray) (h : 0 < t.size) : t.toList.isEmpty = false := by
  rw [ByteArray.toList_eq, List.isEmpty_eq_false_iff]
  intro h1
  have h2 := congrArg List.length h1
  rw [Array.length_toList] at h2
  exact absurd (show t.size = 0 from h2) (by omega)

theorem Tk.isempty (t : ByteArray) (h : ¬ 0 < t.size) : t.toList.isEmpty = true := by
  rw [ByteArray.toList_eq, List.isEmpty_iff]
  apply List.eq_nil_of_length_eq_zero
  rw [Array.length_toList]
  show t.size = 0
  omega

set_option maxHeartbeats 800000 in
theorem isToken_big (k : Int) (t : ByteArray) (w : World) (ht : t.size ≤ maxLen) (h6 : 6000 < t.size) :
    Calls Try.prog 17 #[.int .i64 k, .string t] w fun e w' => e = .returned (.bool false) ∧ w' = w := by
  have hne := Tk.nonempty t (by omega)
  have h6' : (6000 : Int) < (t.size : Int) := by omega
  unfold maxLen at ht
  go_enter Try.func17, Try.ntmps17
  go_wp2_with fail
  go_ret
  exact ⟨rfl, rfl⟩

set_option maxHeartbeats 800000 in
theorem isToken_empty (k : Int) (t : ByteArray) (w : World) (h0 : t.toList.isEmpty = true) :
    Calls Try.prog 17 #[.int .i64 k, .string t] w fun e w' => e = .returned (.bool false) ∧ w' = w := by
  go_enter Try.func17, Try.ntmps17
  go_wp2_with fail
  go_ret
  exact ⟨rfl, rfl⟩

set_option maxHeartbeats 800000 in
theorem isToken_nokind (k : Int) (t : ByteArray) (w : World) (hne : t.toList.isEmpty = false) (h6 : t.size ≤ 6000) (hk : (k == 0) = true) :
    Calls Try.prog 17 #[.int .i64 k, .string t] w fun e w' => e = .returned (.bool false) ∧ w' = w := by
  have h6' : ¬ (6000 : Int) < (t.size : Int) := by omega
  go_enter Try.func17, Try.ntmps17
  go_wp2_with fail
  go_ret
  exact ⟨rfl, rfl⟩

set_option maxRecDepth 100000 in
set_option maxHeartbeats 1600000 in
theorem isToken_some (k : Int) (t : ByteArray) (w : World) (hne : t.toList.isEmpty = false) (h0 : 0 < t.size) (h6 : t.size ≤ 6000) (hk : (k == 0) = false) (res : Bool)
    (hres : (decide (Tk.bad (Tk.B t) = 0) && ((Tk.tokK (Tk.B t) : Int) == k) && ((Tk.tokN (Tk.B t) : Int) == (t.size : Int))) = res) :
    Calls Try.prog 17 #[.int .i64 k, .string t] w fun e w' => e = .returned (.bool res) ∧ w' = w := by
  have h6' : ¬ (6000 : Int) < (t.size : Int) := by omega
  have h01 : (0 : Int) < (t.size : Int) := by omega
  have hd := Tk.B_drop t 0 h0
  rw [List.drop_zero] at hd
  have hkd := Tk.bad_kinds (t[0].toNat : Int) ((Tk.B t).drop (0 + 1))
  rw [← hd] at hkd
  have HKD := hide hkd
  have HRES := hide hres
  clear hkd hres hd
  go_enter Try.func17, Try.ntmps17
  go_wp2_with fail
  refine (refTok_any t 0 _ (by unfold maxLen; omega) h0).mono ?_
  rintro e w1 ⟨rfl, rfl⟩
  have hkd := unhide HKD
  have hres := unhide HRES
  rw [List.drop_zero]
  clear HKD HRES
  generalize Tk.tokK (Tk.B t) = K at *
  generalize Tk.tokN (Tk.B t) = n at *
  generalize Tk.bad (Tk.B t) = bd at *
  cases hkk : ((K : Int) == k)
  · have hr : res = false := by rw [← hres, hkk]; simp
    subst hr
    clear hkd hres
    go_wp2_with fail
    go_ret
    exact ⟨rfl, rfl⟩
  · cases hnn : ((n : Int) == (t.size : Int))
    · have hr : res = false := by rw [← hres, hnn]; simp
      subst hr
      clear hkd hres
      go_wp2_with fail
      go_ret
      exact ⟨rfl, rfl⟩
    · have hr : res = decide (bd = 0) := by rw [← hres, hkk, hnn]; simp
      subst hr
      clear hres
      have hk2 : (K : Int) = k := by simpa using hkk
      subst hk2
      rcases hkd with ⟨rfl, rfl⟩ | ⟨rfl, g1, rfl⟩ | ⟨rfl, g1, rfl⟩ | ⟨rfl, g1, rfl⟩ | ⟨rfl, g1, g2, g3, rfl⟩ | ⟨rfl, g1, g2, g3, rfl⟩ | ⟨rfl, g1, rfl⟩ | ⟨rfl, rfl⟩
      · cases hk
      · have g1' : (12 : Int) < (n : Int) := by omega
        clear hkk hk
        go_wp2_with fail
        go_ret
        exact ⟨ret_bool (by first | rfl | (rw [decide_eq_false (by omega)]; rfl)), rfl⟩
      · have g1' : ¬ (12 : Int) < (n : Int) := by omega
        clear hkk hk
        go_wp2_with fail
        go_ret
        exact ⟨ret_bool (by first | rfl | (rw [decide_eq_false (by omega)]; rfl)), rfl⟩
      · have g1' : (7 : Int) < (n : Int) := by omega
        clear hkk hk
        go_wp2_with fail
        go_ret
        exact ⟨ret_bool (by first | rfl | (rw [decide_eq_false (by omega)]; rfl)), rfl⟩
      · have g1' : ¬ (7 : Int) < (n : Int) := by omega
        have g2' : (1 : Int) < (n : Int) := by omega
        clear hkk hk
        go_wp2_with fail
        go_ret
        exact ⟨ret_bool (by first | rfl | (rw [decide_eq_false (by omega)]; rfl)), rfl⟩
      · have g1' : ¬ (7 : Int) < (n : Int) := by omega
        have g2' : (1 : Int) < (n : Int) := by omega
        clear hkk hk
        go_wp2_with fail
        go_ret
        exact ⟨ret_bool (by first | rfl | (rw [decide_eq_false (by omega)]; rfl)), rfl⟩
      · have g1' : ¬ (7 : Int) < (n : Int) := by omega
        have g2' : ¬ (1 : Int) < (n : Int) := by omega
        clear hkk hk
        go_wp2_with fail
        go_ret
        exact ⟨ret_bool (by first | rfl | (rw [decide_eq_false (by omega)]; rfl)), rfl⟩
      · clear hkk hk
        go_wp2_with fail
        go_ret
        exact ⟨ret_bool (by first | rfl | (rw [decide_eq_false (by omega)]; rfl)), rfl⟩

theorem isToken_any (k : Int) (t : ByteArray) (w : World) (ht : t.size ≤ maxLen) :
    Calls Try.prog 17 #[.int .i64 k, .string t] w fun e w' => e = .returned (.bool (Tk.isTok k (Tk.B t))) ∧ w' = w := by
  by_cases h0 : 0 < t.size
  · by_cases h6 : t.size ≤ 6000
    · by_cases hk : k = 0
      · subst hk
        rw [Tk.isTok_zero]
        exact isToken_nokind 0 t w (Tk.nonempty t h0) h6 rfl
      · have hd := Tk.B_drop t 0 h0
        rw [List.drop_zero] at hd
        refine isToken_some k t w (Tk.nonempty t h0) h0 h6 (beq_eq_false_iff_ne.2 hk) _ ?_
        have hl : (Tk.B t).length = t.size := Tk.B_length t
        rw [← hl, hd]
        exact (Tk.isTok_cons k _ _ (by rw [← hd, hl]; exact h6) hk).symm
    · rw [Tk.isTok_size k t h6]
      exact isToken_big k t w ht (by omega)
  · have e : Tk.B t = [] := List.eq_nil_of_length_eq_zero (by rw [Tk.B_length]; omega)
    have hf : Tk.isTok k (Tk.B t) = false := by rw [e]; rfl
    rw [hf]
    exact isToken_empty k t w (Tk.isempty t h0)

end Go.Proofs.Ytnfigfedijhiiaa
