/-
  The contract of tokenAt of package token. By the verifier.
-/
import Derived.Test.YtfhlnelgnnkeoaaGreatDoorAt
import Derived.Test.YtfhlnelgnnkeoaaGreatDoorTokLem
import Derived.Test.YtfhlnelgnnkeoaaGreatDoorShelfS
namespace Go.Proofs.YtfhlnelgnnkeoaaGreatDoor
open Go.RowKit
set_option linter.unusedVariables false

set_option maxHeartbeats 800000 in
theorem tokenAt_name_ok (s : ByteArray) (i n : Nat) (w : World) (hs : s.size ≤ maxLen) (hi : i < s.size) (hl : Tk.isL (s[i].toNat : Int) = true) (hn : Tk.run Tk.isLD ((Tk.B s).drop i) = n) (h12 : n ≤ 12) :
    Calls Tryz.prog 56 #[.string s, .int .i64 i] w fun e w' => e = .returned (Tk.tokV 1 i n s) ∧ Below w.heap.size w w' := by
  have hs' := hs
  unfold maxLen at hs'
  have HS := hide hs
  have hi0 : (0 : Int) ≤ (i : Int) := by omega
  have hi1 : (i : Int) < (s.size : Int) := by omega
  have HL := hide hl
  have HN := hide hn
  clear hl hn
  clear hs
  go_enter Tryz.func56, Tryz.ntmps56
  go_wp2_with fail
  refine (isLetter_any _ _).mono ?_
  rintro e w' ⟨rfl, rfl⟩
  rw [unhide HL]
  go_wp2_with fail
  refine (nameAt_ok s i n _ (unhide HS) (by omega) (unhide HN) h12).mono ?_
  rintro e w' ⟨rfl, hb⟩
  obtain ⟨hc, hf⟩ := bcell hb
  have hz : w.heap.size < w'.heap.size := by have := hb.size; simp at this; omega
  have HB := hide hb
  clear hb
  unfold Tk.tokV
  go_wp2_with fail
  exact bodyPost_ret (v := Tk.tokV 1 i n s) (by simp [results, Tryz.results56, go_sem, Tk.tokV, hc]) rfl ⟨rfl, (((below_two (unhide HB)).setCell (Nat.le_refl _) _).setCell (Nat.le_refl _) _).setCell (Nat.le_refl _) _⟩

set_option maxHeartbeats 800000 in
theorem tokenAt_name_many (s : ByteArray) (i n : Nat) (w : World) (hs : s.size ≤ maxLen) (hi : i < s.size) (hl : Tk.isL (s[i].toNat : Int) = true) (hn : Tk.run Tk.isLD ((Tk.B s).drop i) = n) (h12 : 12 < n) :
    Calls Tryz.prog 56 #[.string s, .int .i64 i] w fun e w' => e = .panicked (Tk.gaveUp i 2) ∧ Below w.heap.size w w' := by
  have hs' := hs
  unfold maxLen at hs'
  have HS := hide hs
  have hi0 : (0 : Int) ≤ (i : Int) := by omega
  have hi1 : (i : Int) < (s.size : Int) := by omega
  have HL := hide hl
  have HN := hide hn
  clear hl hn
  clear hs
  go_enter Tryz.func56, Tryz.ntmps56
  go_wp2_with fail
  refine (isLetter_any _ _).mono ?_
  rintro e w' ⟨rfl, rfl⟩
  rw [unhide HL]
  go_wp2_with fail
  refine (nameAt_many s i n _ (unhide HS) (by omega) (unhide HN) h12).mono ?_
  rintro e w' ⟨rfl, hb⟩
  exact ⟨rfl, rfl, below_two hb⟩

set_option maxHeartbeats 800000 in
theorem tokenAt_num_ok (s : ByteArray) (i n : Nat) (w : World) (hs : s.size ≤ maxLen) (hi : i < s.size) (hl : Tk.isL (s[i].toNat : Int) = false) (hd : Tk.isD (s[i].toNat : Int) = true) (hn : Tk.run Tk.isD ((Tk.B s).drop i) = n) (h7 : n ≤ 7) (hz0 : ((s[i].toNat : Int) == 48) = false ∨ n ≤ 1) :
    Calls Tryz.prog 56 #[.string s, .int .i64 i] w fun e w' => e = .returned (Tk.tokV 2 i n s) ∧ Below w.heap.size w w' := by
  have hs' := hs
  unfold maxLen at hs'
  have HS := hide hs
  have hi0 : (0 : Int) ≤ (i : Int) := by omega
  have hi1 : (i : Int) < (s.size : Int) := by omega
  have HL := hide hl
  have HD := hide hd
  have HN := hide hn
  clear hl hd hn
  have HZ := hide hz0
  clear hz0
  clear hs
  go_enter Tryz.func56, Tryz.ntmps56
  go_wp2_with fail
  refine (isLetter_any _ _).mono ?_
  rintro e w' ⟨rfl, rfl⟩
  rw [unhide HL]
  go_wp2_with fail
  refine (isDigit_any _ _).mono ?_
  rintro e w' ⟨rfl, rfl⟩
  rw [unhide HD]
  go_wp2_with fail
  refine (numberAt_ok s i n _ (unhide HS) (by omega) (unhide HN) h7 (unhide HZ)).mono ?_
  rintro e w' ⟨rfl, hb⟩
  obtain ⟨hc, hf⟩ := bcell hb
  have hz : w.heap.size < w'.heap.size := by have := hb.size; simp at this; omega
  have HB := hide hb
  clear hb
  unfold Tk.tokV
  go_wp2_with fail
  exact bodyPost_ret (v := Tk.tokV 2 i n s) (by simp [results, Tryz.results56, go_sem, Tk.tokV, hc]) rfl ⟨rfl, (((below_two (unhide HB)).setCell (Nat.le_refl _) _).setCell (Nat.le_refl _) _).setCell (Nat.le_refl _) _⟩

set_option maxHeartbeats 800000 in
theorem tokenAt_num_many (s : ByteArray) (i n : Nat) (w : World) (hs : s.size ≤ maxLen) (hi : i < s.size) (hl : Tk.isL (s[i].toNat : Int) = false) (hd : Tk.isD (s[i].toNat : Int) = true) (hn : Tk.run Tk.isD ((Tk.B s).drop i) = n) (h7 : 7 < n) :
    Calls Tryz.prog 56 #[.string s, .int .i64 i] w fun e w' => e = .panicked (Tk.gaveUp i 2) ∧ Below w.heap.size w w' := by
  have hs' := hs
  unfold maxLen at hs'
  have HS := hide hs
  have hi0 : (0 : Int) ≤ (i : Int) := by omega
  have hi1 : (i : Int) < (s.size : Int) := by omega
  have HL := hide hl
  have HD := hide hd
  have HN := hide hn
  clear hl hd hn
  clear hs
  go_enter Tryz.func56, Tryz.ntmps56
  go_wp2_with fail
  refine (isLetter_any _ _).mono ?_
  rintro e w' ⟨rfl, rfl⟩
  rw [unhide HL]
  go_wp2_with fail
  refine (isDigit_any _ _).mono ?_
  rintro e w' ⟨rfl, rfl⟩
  rw [unhide HD]
  go_wp2_with fail
  refine (numberAt_many s i n _ (unhide HS) (by omega) (unhide HN) h7).mono ?_
  rintro e w' ⟨rfl, hb⟩
  exact ⟨rfl, rfl, below_two hb⟩

set_option maxHeartbeats 800000 in
theorem tokenAt_num_nought (s : ByteArray) (i n : Nat) (w : World) (hs : s.size ≤ maxLen) (hi : i < s.size) (hl : Tk.isL (s[i].toNat : Int) = false) (hd : Tk.isD (s[i].toNat : Int) = true) (hn : Tk.run Tk.isD ((Tk.B s).drop i) = n) (h7 : n ≤ 7) (hz0 : ((s[i].toNat : Int) == 48) = true) (h1 : 1 < n) :
    Calls Tryz.prog 56 #[.string s, .int .i64 i] w fun e w' => e = .panicked (Tk.gaveUp i 1) ∧ Below w.heap.size w w' := by
  have hs' := hs
  unfold maxLen at hs'
  have HS := hide hs
  have hi0 : (0 : Int) ≤ (i : Int) := by omega
  have hi1 : (i : Int) < (s.size : Int) := by omega
  have HL := hide hl
  have HD := hide hd
  have HN := hide hn
  clear hl hd hn
  have HZ := hide hz0
  clear hz0
  clear hs
  go_enter Tryz.func56, Tryz.ntmps56
  go_wp2_with fail
  refine (isLetter_any _ _).mono ?_
  rintro e w' ⟨rfl, rfl⟩
  rw [unhide HL]
  go_wp2_with fail
  refine (isDigit_any _ _).mono ?_
  rintro e w' ⟨rfl, rfl⟩
  rw [unhide HD]
  go_wp2_with fail
  refine (numberAt_nought s i n _ (unhide HS) (by omega) (unhide HN) h7 (unhide HZ) h1).mono ?_
  rintro e w' ⟨rfl, hb⟩
  exact ⟨rfl, rfl, below_two hb⟩

set_option maxHeartbeats 800000 in
theorem tokenAt_two (s : ByteArray) (i : Nat) (w : World) (hs : s.size ≤ maxLen) (hi : i < s.size) (hl : Tk.isL (s[i].toNat : Int) = false) (hd : Tk.isD (s[i].toNat : Int) = false) (hp : Lib.hasPrefix (s.extract i s.size).data.toList [61, 61] = true) :
    Calls Tryz.prog 56 #[.string s, .int .i64 i] w fun e w' => e = .returned (Tk.tokV 3 i 2 s) ∧ Below w.heap.size w w' := by
  have hs' := hs
  unfold maxLen at hs'
  have HS := hide hs
  have hi0 : (0 : Int) ≤ (i : Int) := by omega
  have hi1 : (i : Int) < (s.size : Int) := by omega
  have HL := hide hl
  have HD := hide hd
  have HP := hide hp
  clear hl hd hp
  clear hs
  go_enter Tryz.func56, Tryz.ntmps56
  go_wp2_with fail
  refine (isLetter_any _ _).mono ?_
  rintro e w' ⟨rfl, rfl⟩
  rw [unhide HL]
  go_wp2_with fail
  refine (isDigit_any _ _).mono ?_
  rintro e w' ⟨rfl, rfl⟩
  rw [unhide HD]
  go_wp2_with fail
  refine (Tryz.strings_HasPrefix _ _ _).mono ?_
  rintro e w' ⟨rfl, rfl⟩
  rw [show (⟨#[61, 61]⟩ : ByteArray).data.toList = [61, 61] from rfl, unhide HP]
  go_wp2_with fail
  have ht : Tk.tokV 3 i 2 s = .agg #[.int .i64 3, .int .i64 i, .string ⟨#[61, 61]⟩] := by unfold Tk.tokV; rw [Tk.two_text s i hi (unhide HP)]
  exact bodyPost_ret (v := .agg #[.int .i64 3, .int .i64 i, .string ⟨#[61, 61]⟩]) (by simp [results, Tryz.results56, go_sem]) rfl ⟨by rw [ht], (Below.refl _ _).alloc (Nat.le_refl _) _⟩

set_option maxHeartbeats 800000 in
theorem tokenAt_one (s : ByteArray) (i : Nat) (w : World) (hs : s.size ≤ maxLen) (hi : i < s.size) (hl : Tk.isL (s[i].toNat : Int) = false) (hd : Tk.isD (s[i].toNat : Int) = false) (hp : Lib.hasPrefix (s.extract i s.size).data.toList [61, 61] = false) (hg : Tk.isSign (s[i].toNat : Int) = true) :
    Calls Tryz.prog 56 #[.string s, .int .i64 i] w fun e w' => e = .returned (Tk.tokV 3 i 1 s) ∧ Below w.heap.size w w' := by
  have hs' := hs
  unfold maxLen at hs'
  have HS := hide hs
  have hi0 : (0 : Int) ≤ (i : Int) := by omega
  have hi1 : (i : Int) < (s.size : Int) := by omega
  have HL := hide hl
  have HD := hide hd
  have HP := hide hp
  clear hl hd hp
  have HG := hide hg
  clear hg
  clear hs
  go_enter Tryz.func56, Tryz.ntmps56
  go_wp2_with fail
  refine (isLetter_any _ _).mono ?_
  rintro e w' ⟨rfl, rfl⟩
  rw [unhide HL]
  go_wp2_with fail
  refine (isDigit_any _ _).mono ?_
  rintro e w' ⟨rfl, rfl⟩
  rw [unhide HD]
  go_wp2_with fail
  refine (Tryz.strings_HasPrefix _ _ _).mono ?_
  rintro e w' ⟨rfl, rfl⟩
  rw [show (⟨#[61, 61]⟩ : ByteArray).data.toList = [61, 61] from rfl, unhide HP]
  go_wp2_with fail
  refine (Tryz.strings_IndexByte _ _ _).mono ?_
  rintro e w' ⟨rfl, rfl⟩
  have hsg := Tk.signs_at s[i]
  rw [unhide HG] at hsg
  rw [show (⟨#[123, 125, 40, 41, 91, 93, 59, 44, 61, 43, 45, 42, 47, 37, 60]⟩ : ByteArray).data.toList = [123, 125, 40, 41, 91, 93, 59, 44, 61, 43, 45, 42, 47, 37, 60] from rfl]
  generalize Lib.indexByte [123, 125, 40, 41, 91, 93, 59, 44, 61, 43, 45, 42, 47, 37, 60] ((s[i].toNat : Int).toNat.toUInt8) = ix at *
  have hix : 0 ≤ ix := of_decide_eq_true hsg
  clear hsg
  go_wp2_with fail
  exact bodyPost_ret (v := Tk.tokV 3 i 1 s) (by simp [results, Tryz.results56, go_sem, Tk.tokV]) rfl ⟨rfl, (Below.refl _ _).alloc (Nat.le_refl _) _⟩

set_option maxHeartbeats 800000 in
theorem tokenAt_none (s : ByteArray) (i : Nat) (w : World) (hs : s.size ≤ maxLen) (hi : i < s.size) (hl : Tk.isL (s[i].toNat : Int) = false) (hd : Tk.isD (s[i].toNat : Int) = false) (hp : Lib.hasPrefix (s.extract i s.size).data.toList [61, 61] = false) (hg : Tk.isSign (s[i].toNat : Int) = false) :
    Calls Tryz.prog 56 #[.string s, .int .i64 i] w fun e w' => e = .panicked (Tk.gaveUp i 1) ∧ Below w.heap.size w w' := by
  have hs' := hs
  unfold maxLen at hs'
  have HS := hide hs
  have hi0 : (0 : Int) ≤ (i : Int) := by omega
  have hi1 : (i : Int) < (s.size : Int) := by omega
  have HL := hide hl
  have HD := hide hd
  have HP := hide hp
  clear hl hd hp
  have HG := hide hg
  clear hg
  clear hs
  go_enter Tryz.func56, Tryz.ntmps56
  go_wp2_with fail
  refine (isLetter_any _ _).mono ?_
  rintro e w' ⟨rfl, rfl⟩
  rw [unhide HL]
  go_wp2_with fail
  refine (isDigit_any _ _).mono ?_
  rintro e w' ⟨rfl, rfl⟩
  rw [unhide HD]
  go_wp2_with fail
  refine (Tryz.strings_HasPrefix _ _ _).mono ?_
  rintro e w' ⟨rfl, rfl⟩
  rw [show (⟨#[61, 61]⟩ : ByteArray).data.toList = [61, 61] from rfl, unhide HP]
  go_wp2_with fail
  refine (Tryz.strings_IndexByte _ _ _).mono ?_
  rintro e w' ⟨rfl, rfl⟩
  have hsg := Tk.signs_at s[i]
  rw [unhide HG] at hsg
  rw [show (⟨#[123, 125, 40, 41, 91, 93, 59, 44, 61, 43, 45, 42, 47, 37, 60]⟩ : ByteArray).data.toList = [123, 125, 40, 41, 91, 93, 59, 44, 61, 43, 45, 42, 47, 37, 60] from rfl]
  generalize Lib.indexByte [123, 125, 40, 41, 91, 93, 59, 44, 61, 43, 45, 42, 47, 37, 60] ((s[i].toNat : Int).toNat.toUInt8) = ix at *
  have hix : ix < 0 := by have := of_decide_eq_false hsg; omega
  clear hsg
  go_wp2_with fail
  exact ⟨rfl, rfl, (Below.refl _ _).alloc (Nat.le_refl _) _⟩

end Go.Proofs.YtfhlnelgnnkeoaaGreatDoor
