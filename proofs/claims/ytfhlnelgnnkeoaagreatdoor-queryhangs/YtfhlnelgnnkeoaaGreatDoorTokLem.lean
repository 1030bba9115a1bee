/-
  Plain facts on the library's plain functions, at signs. By the verifier.
-/
import Derived.Test.YtfhlnelgnnkeoaaGreatDoorPlain
import Derived.Lib.Bytealg
import Derived.Lib.Strings
namespace Go.Proofs.YtfhlnelgnnkeoaaGreatDoor.Tk
open Go
set_option linter.unusedVariables false

theorem indexByte_geq (l : List UInt8) (c : UInt8) : decide (0 ≤ Lib.indexByte l c) = l.contains c := by
  induction l with
  | nil => rfl
  | cons b l ih =>
    have hge := Lib.indexByte_ge l c
    unfold Lib.indexByte
    by_cases hb : b = c
    · subst hb; simp
    · have h1 : (b == c) = false := by simpa using hb
      have h2 : (c == b) = false := by simpa using fun e => hb e.symm
      rw [List.contains_cons, h2, Bool.false_or, ← ih, h1]
      by_cases hm : Lib.indexByte l c = -1
      · simp [hm]
      · have h3 : (Lib.indexByte l c == -1) = false := by simpa using hm
        rw [h3]
        simp only [Bool.false_eq_true, if_false]
        rw [Bool.eq_iff_iff]; simp only [decide_eq_true_eq]; omega

theorem signs_fin : ∀ n : Fin 256, (([123, 125, 40, 41, 91, 93, 59, 44, 61, 43, 45, 42, 47, 37, 60] : List UInt8).contains (UInt8.ofNat n.val)) = isSign (n.val : Int) := by decide +kernel

theorem signs_u8 (b : UInt8) : (([123, 125, 40, 41, 91, 93, 59, 44, 61, 43, 45, 42, 47, 37, 60] : List UInt8).contains b) = isSign (b.toNat : Int) := by
  have h := signs_fin ⟨b.toNat, b.toNat_lt⟩
  simpa using h

theorem signs_at (b : UInt8) : decide (0 ≤ Lib.indexByte [123, 125, 40, 41, 91, 93, 59, 44, 61, 43, 45, 42, 47, 37, 60] ((b.toNat : Int).toNat.toUInt8)) = isSign (b.toNat : Int) := by
  rw [indexByte_geq, Int.toNat_natCast]
  have : b.toNat.toUInt8 = b := by simp
  rw [this, signs_u8]

theorem dropU (s : ByteArray) (k : Nat) (h : k < s.size) : s.data.toList.drop k = s[k] :: s.data.toList.drop (k + 1) := by
  have h1 : k < s.data.toList.length := by rw [Array.length_toList]; exact h
  rw [List.drop_eq_getElem_cons h1]
  rfl

theorem eq61 (b : UInt8) : ((b.toNat : Int) == 61) = true ↔ b = 61 := by
  rw [beq_iff_eq]
  constructor
  · intro hh
    have h1 : b.toNat = 61 := by omega
    exact UInt8.toNat_inj.1 (h1.trans rfl)
  · intro hh; rw [hh]; rfl

theorem two_at (s : ByteArray) (i : Nat) (h : i < s.size) :
    Lib.hasPrefix (s.extract i s.size).data.toList [61, 61] = ((s[i].toNat : Int) == 61 && ((B s).drop (i + 1)).head? == some 61) := by
  rw [Lib.extract_data]
  have ht : (s.data.toList.drop i).take (s.size - i) = s.data.toList.drop i := List.take_of_length_le (by rw [List.length_drop, Array.length_toList]; exact Nat.le_refl _)
  rw [ht, dropU s i h]
  have e1 := eq61 s[i]
  by_cases hn : i + 1 < s.size
  · rw [dropU s (i + 1) hn, B_drop s (i + 1) hn]
    have e2 := eq61 s[i + 1]
    unfold Lib.hasPrefix
    rw [Bool.eq_iff_iff, Bool.and_eq_true, e1]
    have e3 : ((s[i + 1].toNat : Int) :: (B s).drop (i + 1 + 1)).head? == some 61 ↔ s[i + 1] = 61 := by
      rw [List.head?_cons, ← e2]; simp
    rw [e3]
    simp [List.isPrefixOf]
    constructor
    · intro ⟨a, b⟩; exact ⟨a.symm, b.symm⟩
    · intro ⟨a, b⟩; exact ⟨a.symm, b.symm⟩
  · have z1 : s.data.toList.drop (i + 1) = [] := List.drop_eq_nil_of_le (by rw [Array.length_toList]; exact Nat.le_of_not_lt hn)
    rw [z1, B_drop_end s (i + 1) (by omega)]
    simp [Lib.hasPrefix, List.isPrefixOf]

theorem two_text (s : ByteArray) (i : Nat) (h : i < s.size) (hp : Lib.hasPrefix (s.extract i s.size).data.toList [61, 61] = true) : s.extract i (i + 2) = ⟨#[61, 61]⟩ := by
  rw [Lib.extract_data] at hp
  have ht : (s.data.toList.drop i).take (s.size - i) = s.data.toList.drop i := List.take_of_length_le (by rw [List.length_drop, Array.length_toList]; exact Nat.le_refl _)
  rw [ht] at hp
  unfold Lib.hasPrefix at hp
  obtain ⟨t, ht⟩ := List.isPrefixOf_iff_prefix.1 hp
  rw [Lib.extract_eq, ← ht]
  simp

end Go.Proofs.YtfhlnelgnnkeoaaGreatDoor.Tk
