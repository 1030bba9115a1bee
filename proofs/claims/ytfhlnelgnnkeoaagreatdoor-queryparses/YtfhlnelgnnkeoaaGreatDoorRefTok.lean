/-
  The contract of TokenAt of the document's answer. By the verifier.
-/
import Derived.Test.YtfhlnelgnnkeoaaGreatDoorRefLeaf
import Derived.Test.YtfhlnelgnnkeoaaGreatDoorTokB
namespace Go.Proofs.YtfhlnelgnnkeoaaGreatDoor
open Go.RowKit
set_option linter.unusedVariables false

theorem byte_le (b : UInt8) : (b.toNat : Int) ≤ 255 := by have := b.toNat_lt; omega
theorem byte_ge (b : UInt8) : 0 ≤ (b.toNat : Int) := by omega

theorem ret_pair {k : IntKind} {a a' b b' : Int} (h : a = a') (h2 : b = b') : Ending.returned (.tuple #[.int k a, .int k b]) = .returned (.tuple #[.int k a', .int k b']) := by rw [h, h2]

set_option maxHeartbeats 800000 in
theorem refTok_name (s : ByteArray) (i : Nat) (w : World) (hs : s.size ≤ maxLen) (hi : i < s.size) (hl : Tk.isL (s[i].toNat : Int) = true) :
    Calls Tryz.prog 46 #[.string s, .int .i64 i] w fun e w' => e = .returned (.tuple #[.int .i64 1, .int .i64 ((Tk.run Tk.isLD ((Tk.B s).drop (i + 1)) + 1 : Nat) : Int)]) ∧ w' = w := by
  unfold maxLen at hs
  have HL := hide hl
  clear hl
  have hi0 : (0 : Int) ≤ (i : Int) := by omega
  have hi1 : (i : Int) < (s.size : Int) := by omega
  go_enter Tryz.func46, Tryz.ntmps46
  go_wp2_with fail
  refine (refLetter_any _ _ (byte_ge _) (byte_le _)).mono ?_
  rintro e w' ⟨rfl, rfl⟩
  rw [unhide HL]
  go_wp2_with fail
  go_loop [7] (fun v => ∃ m : Nat, 1 ≤ m ∧ i + m ≤ s.size ∧ v = .int .i64 m ∧ m + Tk.run Tk.isLD ((Tk.B s).drop (i + m)) = Tk.run Tk.isLD ((Tk.B s).drop (i + 1)) + 1) (fun v => s.size - i - (intOf v).toNat)
  case atStart => exact ⟨1, by omega, by omega, rfl, by omega⟩
  case round =>
    obtain ⟨m, hm1, hm, rfl, hrun⟩ := hrel
    have HR := hide hrun
    clear hrun
    by_cases hlt : i + m < s.size
    · have hst := Tk.run_step Tk.isLD s (i + m) hlt
      have HST := hide hst
      clear hst
      have hm0 : (0 : Int) ≤ (i : Int) + (m : Int) := by omega
      have hm2 : (i : Int) + (m : Int) < (s.size : Int) := by omega
      cases h1 : Tk.isL (s[i + m].toNat : Int)
      · have H1 := hide h1
        clear h1
        go_wp2_with fail
        refine (refLetter_any _ _ (byte_ge _) (byte_le _)).mono ?_
        rintro e w' ⟨rfl, rfl⟩
        rw [unhide H1]
        go_wp2_with fail
        refine (refDigit_any _ _ (byte_ge _) (byte_le _)).mono ?_
        rintro e w' ⟨rfl, rfl⟩
        cases h2 : Tk.isD (s[i + m].toNat : Int)
        · have h3 : Hid (m = Tk.run Tk.isLD ((Tk.B s).drop (i + 1)) + 1) := by
            have a := unhide HST; have b := unhide HR
            have hld : Tk.isLD (s[i + m].toNat : Int) = false := by simp [Tk.isLD, unhide H1, h2]
            rw [hld] at a; simp at a; show _ = _; omega
          clear h2 HST HR
          go_wp2_with fail
          go_ret2
          exact ⟨ret_pair rfl (by have := unhide h3; omega), rfl⟩
        · have h3 : Hid (m + 1 + Tk.run Tk.isLD ((Tk.B s).drop (i + (m + 1))) = Tk.run Tk.isLD ((Tk.B s).drop (i + 1)) + 1) := by
            have a := unhide HST; have b := unhide HR
            have hld : Tk.isLD (s[i + m].toNat : Int) = true := by simp [Tk.isLD, unhide H1, h2]
            rw [hld] at a; simp at a; show _ = _
            rw [show i + (m + 1) = i + m + 1 from by omega]; omega
          clear h2 HST HR
          go_wp2_with fail
          go_round
          case rel => exact ⟨m + 1, by omega, by omega, by go_num, unhide h3⟩
          case measure => simp [intOf]; omega
      · have h3 : Hid (m + 1 + Tk.run Tk.isLD ((Tk.B s).drop (i + (m + 1))) = Tk.run Tk.isLD ((Tk.B s).drop (i + 1)) + 1) := by
          have a := unhide HST; have b := unhide HR
          have hld : Tk.isLD (s[i + m].toNat : Int) = true := by simp [Tk.isLD, h1]
          rw [hld] at a; simp at a; show _ = _
          rw [show i + (m + 1) = i + m + 1 from by omega]; omega
        have H1 := hide h1
        clear h1 HST HR
        go_wp2_with fail
        refine (refLetter_any _ _ (byte_ge _) (byte_le _)).mono ?_
        rintro e w' ⟨rfl, rfl⟩
        rw [unhide H1]
        go_wp2_with fail
        go_round
        case rel => exact ⟨m + 1, by omega, by omega, by go_num, unhide h3⟩
        case measure => simp [intOf]; omega
    · have h3 : Hid (m = Tk.run Tk.isLD ((Tk.B s).drop (i + 1)) + 1) := by
        have b := unhide HR
        rw [Tk.B_drop_end s (i + m) (by omega)] at b
        exact b
      clear HR
      go_wp2_with fail
      go_ret2
      exact ⟨ret_pair rfl (by have := unhide h3; omega), rfl⟩

set_option maxHeartbeats 800000 in
theorem refTok_num (s : ByteArray) (i : Nat) (w : World) (hs : s.size ≤ maxLen) (hi : i < s.size) (hl : Tk.isL (s[i].toNat : Int) = false) (hd : Tk.isD (s[i].toNat : Int) = true) :
    Calls Tryz.prog 46 #[.string s, .int .i64 i] w fun e w' => e = .returned (.tuple #[.int .i64 2, .int .i64 ((Tk.run Tk.isD ((Tk.B s).drop (i + 1)) + 1 : Nat) : Int)]) ∧ w' = w := by
  unfold maxLen at hs
  have HL := hide hl
  have HD := hide hd
  clear hl hd
  have hi0 : (0 : Int) ≤ (i : Int) := by omega
  have hi1 : (i : Int) < (s.size : Int) := by omega
  go_enter Tryz.func46, Tryz.ntmps46
  go_wp2_with fail
  refine (refLetter_any _ _ (byte_ge _) (byte_le _)).mono ?_
  rintro e w' ⟨rfl, rfl⟩
  rw [unhide HL]
  go_wp2_with fail
  refine (refDigit_any _ _ (byte_ge _) (byte_le _)).mono ?_
  rintro e w' ⟨rfl, rfl⟩
  rw [unhide HD]
  go_wp2_with fail
  go_loop [7] (fun v => ∃ m : Nat, 1 ≤ m ∧ i + m ≤ s.size ∧ v = .int .i64 m ∧ m + Tk.run Tk.isD ((Tk.B s).drop (i + m)) = Tk.run Tk.isD ((Tk.B s).drop (i + 1)) + 1) (fun v => s.size - i - (intOf v).toNat)
  case atStart => exact ⟨1, by omega, by omega, rfl, by omega⟩
  case round =>
    obtain ⟨m, hm1, hm, rfl, hrun⟩ := hrel
    have HR := hide hrun
    clear hrun
    by_cases hlt : i + m < s.size
    · have hst := Tk.run_step Tk.isD s (i + m) hlt
      have HST := hide hst
      clear hst
      have hm0 : (0 : Int) ≤ (i : Int) + (m : Int) := by omega
      have hm2 : (i : Int) + (m : Int) < (s.size : Int) := by omega
      go_wp2_with fail
      refine (refDigit_any _ _ (byte_ge _) (byte_le _)).mono ?_
      rintro e w' ⟨rfl, rfl⟩
      cases h2 : Tk.isD (s[i + m].toNat : Int)
      · have h3 : Hid (m = Tk.run Tk.isD ((Tk.B s).drop (i + 1)) + 1) := by
          have a := unhide HST; have b := unhide HR
          rw [h2] at a; simp at a; show _ = _; omega
        clear h2 HST HR
        go_wp2_with fail
        go_ret2
        exact ⟨ret_pair rfl (by have := unhide h3; omega), rfl⟩
      · have h3 : Hid (m + 1 + Tk.run Tk.isD ((Tk.B s).drop (i + (m + 1))) = Tk.run Tk.isD ((Tk.B s).drop (i + 1)) + 1) := by
          have a := unhide HST; have b := unhide HR
          rw [h2] at a; simp at a; show _ = _
          rw [show i + (m + 1) = i + m + 1 from by omega]; omega
        clear h2 HST HR
        go_wp2_with fail
        go_round
        case rel => exact ⟨m + 1, by omega, by omega, by go_num, unhide h3⟩
        case measure => simp [intOf]; omega
    · have h3 : Hid (m = Tk.run Tk.isD ((Tk.B s).drop (i + 1)) + 1) := by
        have b := unhide HR
        rw [Tk.B_drop_end s (i + m) (by omega)] at b
        exact b
      clear HR
      go_wp2_with fail
      go_ret2
      exact ⟨ret_pair rfl (by have := unhide h3; omega), rfl⟩

set_option maxHeartbeats 800000 in
theorem refTok_two (s : ByteArray) (i : Nat) (w : World) (hs : s.size ≤ maxLen) (hi : i < s.size) (hl : Tk.isL (s[i].toNat : Int) = false) (hd : Tk.isD (s[i].toNat : Int) = false)
    (h1 : ((s[i].toNat : Int) == 61) = true) (hn : i + 1 < s.size) (h2 : ((s[i + 1].toNat : Int) == 61) = true) :
    Calls Tryz.prog 46 #[.string s, .int .i64 i] w fun e w' => e = .returned (.tuple #[.int .i64 3, .int .i64 2]) ∧ w' = w := by
  unfold maxLen at hs
  have HL := hide hl
  have HD := hide hd
  clear hl hd
  have hi0 : (0 : Int) ≤ (i : Int) := by omega
  have hi1 : (i : Int) < (s.size : Int) := by omega
  have hn0 : (0 : Int) ≤ (i : Int) + 1 := by omega
  have hn1 : (i : Int) + 1 < (s.size : Int) := by omega
  go_enter Tryz.func46, Tryz.ntmps46
  go_wp2_with fail
  refine (refLetter_any _ _ (byte_ge _) (byte_le _)).mono ?_
  rintro e w' ⟨rfl, rfl⟩
  rw [unhide HL]
  go_wp2_with fail
  refine (refDigit_any _ _ (byte_ge _) (byte_le _)).mono ?_
  rintro e w' ⟨rfl, rfl⟩
  rw [unhide HD]
  go_wp2_with fail
  go_ret2
  exact ⟨rfl, rfl⟩

def Tk.allB : ByteArray := ⟨#[123, 125, 40, 41, 91, 93, 59, 44, 61, 43, 45, 42, 47, 37, 60]⟩
theorem Tk.allB_size : Tk.allB.size = 15 := rfl
theorem Tk.allB_signs : Tk.B Tk.allB = Tk.signs := by decide +kernel
theorem Tk.allB_at (j : Nat) (h : j < Tk.allB.size) : Tk.signs[j]? = some (Tk.allB[j].toNat : Int) := by
  rw [← Tk.allB_signs, ← List.head?_drop, Tk.B_drop Tk.allB j h]; rfl
theorem Tk.sign_of (j : Nat) (c : Int) (h : Tk.signs[j]? = some c) : Tk.isSign c = true := by
  unfold Tk.isSign; rw [List.contains_iff_mem]; exact List.mem_of_getElem? h
theorem Tk.no_sign (c : Int) (h : ∀ q : Nat, q < 15 → Tk.signs[q]? ≠ some c) : Tk.isSign c = false := by
  apply Bool.eq_false_iff.2
  intro hc
  unfold Tk.isSign at hc
  rw [List.contains_iff_mem] at hc
  obtain ⟨q, hq⟩ := List.getElem?_of_mem hc
  have hl : q < Tk.signs.length := (List.getElem?_eq_some_iff.1 hq).1
  exact h q hl hq

set_option maxHeartbeats 800000 in
theorem refTok_sign (s : ByteArray) (i : Nat) (w : World) (hs : s.size ≤ maxLen) (hi : i < s.size) (hl : Tk.isL (s[i].toNat : Int) = false) (hd : Tk.isD (s[i].toNat : Int) = false)
    (h1 : ((s[i].toNat : Int) == 61) = false) (K N : Int) (hK : (if Tk.isSign (s[i].toNat : Int) then (3 : Int) else 0) = K) (hN : (if Tk.isSign (s[i].toNat : Int) then (1 : Int) else 0) = N) :
    Calls Tryz.prog 46 #[.string s, .int .i64 i] w fun e w' => e = .returned (.tuple #[.int .i64 K, .int .i64 N]) ∧ w' = w := by
  unfold maxLen at hs
  have HL := hide hl
  have HD := hide hd
  have HK := hide hK
  have HN := hide hN
  clear hl hd hK hN
  have hi0 : (0 : Int) ≤ (i : Int) := by omega
  have hi1 : (i : Int) < (s.size : Int) := by omega
  go_enter Tryz.func46, Tryz.ntmps46
  go_wp2_with fail
  refine (refLetter_any _ _ (byte_ge _) (byte_le _)).mono ?_
  rintro e w' ⟨rfl, rfl⟩
  rw [unhide HL]
  go_wp2_with fail
  refine (refDigit_any _ _ (byte_ge _) (byte_le _)).mono ?_
  rintro e w' ⟨rfl, rfl⟩
  rw [unhide HD]
  go_wp2_with fail
  have hA : Hid (∀ j (h : j < Tk.allB.size), Tk.signs[j]? = some (Tk.allB[j].toNat : Int)) := Tk.allB_at
  have hAs : Tk.allB.size = 15 := Tk.allB_size
  rw [show (⟨#[123, 125, 40, 41, 91, 93, 59, 44, 61, 43, 45, 42, 47, 37, 60]⟩ : ByteArray) = Tk.allB from rfl]
  generalize Tk.allB = A at *
  generalize (s[i].toNat : Int) = c at *
  go_loop [9] (fun v => ∃ j : Nat, j ≤ 15 ∧ v = .int .i64 j ∧ ∀ q : Nat, q < j → Tk.signs[q]? ≠ some c) (fun v => 15 - (intOf v).toNat)
  case atStart => exact ⟨0, by omega, rfl, fun q hq => by omega⟩
  case round =>
    obtain ⟨j, hj, rfl, hall⟩ := hrel
    have HA := hide hall
    clear hall
    by_cases hlt : j < A.size
    · have hj0 : (0 : Int) ≤ (j : Int) := by omega
      have hj1 : (j : Int) < (A.size : Int) := by omega
      have hj15 : j < 15 := by omega
      have hat := (unhide hA) j hlt
      cases hq : ((A[j].toNat : Int) == c)
      · have hne : Hid (Tk.signs[j]? ≠ some c) := by
          show _ ≠ _
          rw [hat]; intro e; injection e with e; rw [beq_eq_false_iff_ne] at hq; exact hq e
        clear hat
        go_wp2_with fail
        go_round
        case rel =>
          refine ⟨j + 1, by omega, by go_num, fun q hq2 => ?_⟩
          by_cases e : q = j
          · subst e; exact unhide hne
          · exact (unhide HA) q (by omega)
        case measure => simp [intOf]; omega
      · have hc : Tk.isSign c = true := Tk.sign_of j c (by rw [hat]; rw [beq_iff_eq] at hq; rw [hq])
        have hk := unhide HK
        have hn := unhide HN
        rw [hc, if_pos rfl] at hk hn
        subst hk hn
        clear hat hc
        go_wp2_with fail
        go_ret2
        exact ⟨rfl, rfl⟩
    · have hj15 : j = 15 := by omega
      subst hj15
      have hc : Tk.isSign c = false := Tk.no_sign c (unhide HA)
      have hk := unhide HK
      have hn := unhide HN
      rw [hc] at hk hn
      simp only [Bool.false_eq_true, if_false] at hk hn
      subst hk hn
      clear hc
      go_wp2_with fail
      go_ret2
      exact ⟨rfl, rfl⟩

set_option maxHeartbeats 800000 in
theorem refTok_eqEnd (s : ByteArray) (i : Nat) (w : World) (hs : s.size ≤ maxLen) (hi : i < s.size) (hl : Tk.isL (s[i].toNat : Int) = false) (hd : Tk.isD (s[i].toNat : Int) = false)
    (h1 : ((s[i].toNat : Int) == 61) = true) (hn : ¬ i + 1 < s.size) (K N : Int) (hK : (if Tk.isSign (s[i].toNat : Int) then (3 : Int) else 0) = K) (hN : (if Tk.isSign (s[i].toNat : Int) then (1 : Int) else 0) = N) :
    Calls Tryz.prog 46 #[.string s, .int .i64 i] w fun e w' => e = .returned (.tuple #[.int .i64 K, .int .i64 N]) ∧ w' = w := by
  unfold maxLen at hs
  have HL := hide hl
  have HD := hide hd
  have HK := hide hK
  have HN := hide hN
  clear hl hd hK hN
  have hi0 : (0 : Int) ≤ (i : Int) := by omega
  have hi1 : (i : Int) < (s.size : Int) := by omega
  have hn1 : ¬ (i : Int) + 1 < (s.size : Int) := by omega
  go_enter Tryz.func46, Tryz.ntmps46
  go_wp2_with fail
  refine (refLetter_any _ _ (byte_ge _) (byte_le _)).mono ?_
  rintro e w' ⟨rfl, rfl⟩
  rw [unhide HL]
  go_wp2_with fail
  refine (refDigit_any _ _ (byte_ge _) (byte_le _)).mono ?_
  rintro e w' ⟨rfl, rfl⟩
  rw [unhide HD]
  go_wp2_with fail
  have hA : Hid (∀ j (h : j < Tk.allB.size), Tk.signs[j]? = some (Tk.allB[j].toNat : Int)) := Tk.allB_at
  have hAs : Tk.allB.size = 15 := Tk.allB_size
  rw [show (⟨#[123, 125, 40, 41, 91, 93, 59, 44, 61, 43, 45, 42, 47, 37, 60]⟩ : ByteArray) = Tk.allB from rfl]
  generalize Tk.allB = A at *
  generalize (s[i].toNat : Int) = c at *
  go_loop [9] (fun v => ∃ j : Nat, j ≤ 15 ∧ v = .int .i64 j ∧ ∀ q : Nat, q < j → Tk.signs[q]? ≠ some c) (fun v => 15 - (intOf v).toNat)
  case atStart => exact ⟨0, by omega, rfl, fun q hq => by omega⟩
  case round =>
    obtain ⟨j, hj, rfl, hall⟩ := hrel
    have HA := hide hall
    clear hall
    by_cases hlt : j < A.size
    · have hj0 : (0 : Int) ≤ (j : Int) := by omega
      have hj1 : (j : Int) < (A.size : Int) := by omega
      have hj15 : j < 15 := by omega
      have hat := (unhide hA) j hlt
      cases hq : ((A[j].toNat : Int) == c)
      · have hne : Hid (Tk.signs[j]? ≠ some c) := by
          show _ ≠ _
          rw [hat]; intro e; injection e with e; rw [beq_eq_false_iff_ne] at hq; exact hq e
        clear hat
        go_wp2_with fail
        go_round
        case rel =>
          refine ⟨j + 1, by omega, by go_num, fun q hq2 => ?_⟩
          by_cases e : q = j
          · subst e; exact unhide hne
          · exact (unhide HA) q (by omega)
        case measure => simp [intOf]; omega
      · have hc : Tk.isSign c = true := Tk.sign_of j c (by rw [hat]; rw [beq_iff_eq] at hq; rw [hq])
        have hk := unhide HK
        have hn := unhide HN
        rw [hc, if_pos rfl] at hk hn
        subst hk hn
        clear hat hc
        go_wp2_with fail
        go_ret2
        exact ⟨rfl, rfl⟩
    · have hj15 : j = 15 := by omega
      subst hj15
      have hc : Tk.isSign c = false := Tk.no_sign c (unhide HA)
      have hk := unhide HK
      have hn := unhide HN
      rw [hc] at hk hn
      simp only [Bool.false_eq_true, if_false] at hk hn
      subst hk hn
      clear hc
      go_wp2_with fail
      go_ret2
      exact ⟨rfl, rfl⟩

set_option maxHeartbeats 800000 in
theorem refTok_eqOne (s : ByteArray) (i : Nat) (w : World) (hs : s.size ≤ maxLen) (hi : i < s.size) (hl : Tk.isL (s[i].toNat : Int) = false) (hd : Tk.isD (s[i].toNat : Int) = false)
    (h1 : ((s[i].toNat : Int) == 61) = true) (hn : i + 1 < s.size) (h2 : ((s[i + 1].toNat : Int) == 61) = false) (K N : Int) (hK : (if Tk.isSign (s[i].toNat : Int) then (3 : Int) else 0) = K) (hN : (if Tk.isSign (s[i].toNat : Int) then (1 : Int) else 0) = N) :
    Calls Tryz.prog 46 #[.string s, .int .i64 i] w fun e w' => e = .returned (.tuple #[.int .i64 K, .int .i64 N]) ∧ w' = w := by
  unfold maxLen at hs
  have HL := hide hl
  have HD := hide hd
  have HK := hide hK
  have HN := hide hN
  clear hl hd hK hN
  have hi0 : (0 : Int) ≤ (i : Int) := by omega
  have hi1 : (i : Int) < (s.size : Int) := by omega
  have hn0 : (0 : Int) ≤ (i : Int) + 1 := by omega
  have hn1 : (i : Int) + 1 < (s.size : Int) := by omega
  go_enter Tryz.func46, Tryz.ntmps46
  go_wp2_with fail
  refine (refLetter_any _ _ (byte_ge _) (byte_le _)).mono ?_
  rintro e w' ⟨rfl, rfl⟩
  rw [unhide HL]
  go_wp2_with fail
  refine (refDigit_any _ _ (byte_ge _) (byte_le _)).mono ?_
  rintro e w' ⟨rfl, rfl⟩
  rw [unhide HD]
  go_wp2_with fail
  have hA : Hid (∀ j (h : j < Tk.allB.size), Tk.signs[j]? = some (Tk.allB[j].toNat : Int)) := Tk.allB_at
  have hAs : Tk.allB.size = 15 := Tk.allB_size
  rw [show (⟨#[123, 125, 40, 41, 91, 93, 59, 44, 61, 43, 45, 42, 47, 37, 60]⟩ : ByteArray) = Tk.allB from rfl]
  generalize Tk.allB = A at *
  generalize (s[i].toNat : Int) = c at *
  go_loop [9] (fun v => ∃ j : Nat, j ≤ 15 ∧ v = .int .i64 j ∧ ∀ q : Nat, q < j → Tk.signs[q]? ≠ some c) (fun v => 15 - (intOf v).toNat)
  case atStart => exact ⟨0, by omega, rfl, fun q hq => by omega⟩
  case round =>
    obtain ⟨j, hj, rfl, hall⟩ := hrel
    have HA := hide hall
    clear hall
    by_cases hlt : j < A.size
    · have hj0 : (0 : Int) ≤ (j : Int) := by omega
      have hj1 : (j : Int) < (A.size : Int) := by omega
      have hj15 : j < 15 := by omega
      have hat := (unhide hA) j hlt
      cases hq : ((A[j].toNat : Int) == c)
      · have hne : Hid (Tk.signs[j]? ≠ some c) := by
          show _ ≠ _
          rw [hat]; intro e; injection e with e; rw [beq_eq_false_iff_ne] at hq; exact hq e
        clear hat
        go_wp2_with fail
        go_round
        case rel =>
          refine ⟨j + 1, by omega, by go_num, fun q hq2 => ?_⟩
          by_cases e : q = j
          · subst e; exact unhide hne
          · exact (unhide HA) q (by omega)
        case measure => simp [intOf]; omega
      · have hc : Tk.isSign c = true := Tk.sign_of j c (by rw [hat]; rw [beq_iff_eq] at hq; rw [hq])
        have hk := unhide HK
        have hn := unhide HN
        rw [hc, if_pos rfl] at hk hn
        subst hk hn
        clear hat hc
        go_wp2_with fail
        go_ret2
        exact ⟨rfl, rfl⟩
    · have hj15 : j = 15 := by omega
      subst hj15
      have hc : Tk.isSign c = false := Tk.no_sign c (unhide HA)
      have hk := unhide HK
      have hn := unhide HN
      rw [hc] at hk hn
      simp only [Bool.false_eq_true, if_false] at hk hn
      subst hk hn
      clear hc
      go_wp2_with fail
      go_ret2
      exact ⟨rfl, rfl⟩

theorem refTok_any (s : ByteArray) (i : Nat) (w : World) (hs : s.size ≤ maxLen) (hi : i < s.size) :
    Calls Tryz.prog 46 #[.string s, .int .i64 i] w fun e w' => e = .returned (.tuple #[.int .i64 ((Tk.tokK ((Tk.B s).drop i) : Nat) : Int), .int .i64 ((Tk.tokN ((Tk.B s).drop i) : Nat) : Int)]) ∧ w' = w := by
  have hd := Tk.B_drop s i hi
  rw [hd, Tk.tokK_cons, Tk.tokN_cons]
  cases h1 : Tk.isL (s[i].toNat : Int)
  · cases h2 : Tk.isD (s[i].toNat : Int)
    · have key : ∀ (h : ((s[i].toNat : Int) == 61 && ((Tk.B s).drop (i + 1)).head? == some 61) = false),
          (((if false = true then 1 else if false = true then 2 else if ((s[i].toNat : Int) == 61 && ((Tk.B s).drop (i + 1)).head? == some 61) = true then 3 else if Tk.isSign (s[i].toNat : Int) = true then 3 else 0 : Nat)) : Int) = (if Tk.isSign (s[i].toNat : Int) then (3 : Int) else 0) ∧
          (((if false = true then Tk.run Tk.isLD ((Tk.B s).drop (i + 1)) + 1 else if false = true then Tk.run Tk.isD ((Tk.B s).drop (i + 1)) + 1 else if ((s[i].toNat : Int) == 61 && ((Tk.B s).drop (i + 1)).head? == some 61) = true then 2 else if Tk.isSign (s[i].toNat : Int) = true then 1 else 0 : Nat)) : Int) = (if Tk.isSign (s[i].toNat : Int) then (1 : Int) else 0) := by
        intro h
        rw [h]
        cases Tk.isSign (s[i].toNat : Int) <;> exact ⟨rfl, rfl⟩
      cases h3 : ((s[i].toNat : Int) == 61)
      · obtain ⟨k1, k2⟩ := key (by rw [h3]; rfl)
        rw [h3] at k1 k2
        exact refTok_sign s i w hs hi h1 h2 h3 _ _ k1.symm k2.symm
      · by_cases hn : i + 1 < s.size
        · have hd2 := Tk.B_drop s (i + 1) hn
          cases h4 : ((s[i + 1].toNat : Int) == 61)
          · have hh : (((Tk.B s).drop (i + 1)).head? == some 61) = false := by
              rw [hd2, List.head?_cons]
              rw [beq_eq_false_iff_ne] at h4 ⊢
              intro e; injection e with e; exact h4 e
            obtain ⟨k1, k2⟩ := key (by rw [h3, hh]; rfl)
            rw [h3] at k1 k2
            exact refTok_eqOne s i w hs hi h1 h2 h3 hn h4 _ _ k1.symm k2.symm
          · have hh : (((Tk.B s).drop (i + 1)).head? == some 61) = true := by
              rw [hd2, List.head?_cons]
              rw [beq_iff_eq] at h4 ⊢
              rw [h4]
            rw [hh]
            exact refTok_two s i w hs hi h1 h2 h3 hn h4
        · have hh : (((Tk.B s).drop (i + 1)).head? == some 61) = false := by rw [Tk.B_drop_end s (i + 1) (by omega)]; rfl
          obtain ⟨k1, k2⟩ := key (by rw [h3, hh]; rfl)
          rw [h3] at k1 k2
          exact refTok_eqEnd s i w hs hi h1 h2 h3 hn _ _ k1.symm k2.symm
    · simp only [Bool.false_eq_true, if_false, if_true]
      exact refTok_num s i w hs hi h1 h2
  · simp only [if_true]
    exact refTok_name s i w hs hi h1

end Go.Proofs.YtfhlnelgnnkeoaaGreatDoor
