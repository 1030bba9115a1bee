/- By the verifier. -/
import Derived.Test.YtfccpddehpgfoaaGreatDoorXP
import Derived.Lib.Bytealg
import Derived.Lib.Strings
import Derived.Shelf.Small.Strs
import Derived.Shelf.Strings.Prefix
set_option maxHeartbeats 800000
namespace Go.Proofs.YtfccpddehpgfoaaGreatDoor.Tk
open Go
set_option linter.unusedVariables false
theorem indexByte_geq (l : List UInt8) (c : UInt8) : decide (0 ≤ Lib.indexByte l c) = l.contains c := by
 induction l with
 | nil => rfl
 | cons b l ih =>
  have hge := Lib.indexByte_ge l c
  unfold Lib.indexByte
  by_cases hb : b = c
  · subst hb; simp
  have h1 : (b == c) = false := by simpa using hb
  have h2 : (c == b) = false := by simpa using fun e => hb e.symm
  rw [List.contains_cons, h2, Bool.false_or, ← ih, h1]
  by_cases hm : Lib.indexByte l c = -1
  · simp [hm]
  have h3 : (Lib.indexByte l c == -1) = false := by simpa using hm
  rw [h3]
  simp only [Zb, if_false]
  rw [Bool.eq_iff_iff]; simp only [decide_eq_true_eq]; omega
theorem signs_fin : ∀ n : Fin 256, (([123, 125, 40, 41, 91, 93, 59, 44, 61, 43, 45, 42, 47, 37, 60] : List UInt8).contains (UInt8.ofNat n.val)) = isSign (n.val : Int) := by decide +kernel
theorem signs_u8 (b : UInt8) : (([123, 125, 40, 41, 91, 93, 59, 44, 61, 43, 45, 42, 47, 37, 60] : List UInt8).contains b) = isSign (b.toNat : Int) := by
 have h := signs_fin ⟨b.toNat, b.toNat_lt⟩
 simpa using h
theorem signs_at (b : UInt8) : decide (0 ≤ Lib.indexByte [123, 125, 40, 41, 91, 93, 59, 44, 61, 43, 45, 42, 47, 37, 60] ((b.toNat : Int).toNat.toUInt8)) = isSign (b.toNat : Int) := by
 rw [indexByte_geq, Int.toNat_natCast]
 have : b.toNat.toUInt8 = b := by simp
 rw [this, signs_u8]
theorem dropU (s : ByteArray) (k : Nat) (h : k < s.size) : s.data.toList.drop k = s[k] :: s.data.toList.drop (k + 1) := by
 have h1 : k < s.data.toList.length := by rw [Array.length_toList]; exact h
 rw [List.drop_eq_getElem_cons h1]
 rfl
theorem eq61 (b : UInt8) : ((b.toNat : Int) == 61) = true ↔ b = 61 := by
 rw [beq_iff_eq]
 constructor
 · intro hh
   have h1 : b.toNat = 61 := by omega
   exact UInt8.toNat_inj.1 (h1.trans rfl)
 intro hh; rw [hh]; rfl
theorem two_at (s : ByteArray) (i : Nat) (h : i < s.size) :
  Lib.hasPrefix (s.extract i s.size).data.toList [61, 61] = ((s[i].toNat : Int) == 61 && ((B s).drop (i + 1)).head? == some 61) := by
 rw [Lib.extract_data]
 have ht : (s.data.toList.drop i).take (s.size - i) = s.data.toList.drop i := List.take_of_length_le (by rw [List.length_drop, Array.length_toList]; exact Nat.le_refl _)
 rw [ht, dropU s i h]
 have e1 := eq61 s[i]
 by_cases hn : i + 1 < s.size
 · rw [dropU s (i + 1) hn, B_drop s (i + 1) hn]
   have e2 := eq61 s[i + 1]
   unfold Lib.hasPrefix
   rw [Bool.eq_iff_iff, Bool.and_eq_true, e1]
   have e3 : ((s[i + 1].toNat : Int) :: (B s).drop (i + 1 + 1)).head? == some 61 ↔ s[i + 1] = 61 := by
    rw [List.head?_cons, ← e2]; simp
   rw [e3]
   simp [List.isPrefixOf]
   constructor
   · intro ⟨a, b⟩; exact ⟨a.symm, b.symm⟩
   intro ⟨a, b⟩; exact ⟨a.symm, b.symm⟩
 have z1 : s.data.toList.drop (i + 1) = [] := List.drop_eq_nil_of_le (by rw [Array.length_toList]; exact Nat.le_of_not_lt hn)
 rw [z1, B_drop_end s (i + 1) (by omega)]
 simp [Lib.hasPrefix, List.isPrefixOf]
theorem two_text (s : ByteArray) (i : Nat) (h : i < s.size) (hp : Lib.hasPrefix (s.extract i s.size).data.toList [61, 61] = true) : s.extract i (i + 2) = ⟨#[61, 61]⟩ := by
 rw [Lib.extract_data] at hp
 have ht : (s.data.toList.drop i).take (s.size - i) = s.data.toList.drop i := List.take_of_length_le (by rw [List.length_drop, Array.length_toList]; exact Nat.le_refl _)
 rw [ht] at hp
 unfold Lib.hasPrefix at hp
 obtain ⟨t, ht⟩ := List.isPrefixOf_iff_prefix.1 hp
 rw [Lib.extract_eq, ← ht]
 simp
end Go.Proofs.YtfccpddehpgfoaaGreatDoor.Tk
namespace Go.Proofs
open Go.Shelf Go.RowKit
def Tryz.lays137_ren : Go.Shelf.Ren := ⟨fun | 137 => 119 | 217 => 159 | 266 => 192 | n => n, fun | 0 => 0 | 3 => 3 | 4 => 4 | 5 => 5 | 9 => 9 | 20 => 20 | n => n, fun | n => n⟩
theorem Tryz.lays137 : Go.Proofs.Lays.n137 Tryz.prog Tryz.lays137_ren := {
 mixed := by kernel_rfl
 f137 := Tryz.func119.trans (congrArg some (by kernel_rfl))
 f217 := Tryz.func159.trans (congrArg some (by kernel_rfl))
 f266 := Tryz.func192.trans (congrArg some (by kernel_rfl))
 t3 := Tryz.underlying3
 a3 := Tryz.isAgg3
 z3 := Tryz.sizeOf3
 v3 := Tryz.zeroValue3
 t5 := Tryz.underlying5
 a5 := Tryz.isAgg5
 z5 := Tryz.sizeOf5
 v5 := Tryz.zeroValue5
 t9 := Tryz.underlying9
 a9 := Tryz.isAgg9
 z9 := Tryz.sizeOf9
 v9 := Tryz.zeroValue9 }
theorem Tryz.strings_IndexByte (s : ByteArray) (c : Int) (w : World) :
  Calls Tryz.prog 119 #[.string s, .int .u8 c] w fun e w' => e = .returned (.int .i64 (Lib.indexByte s.data.toList c.toNat.toUInt8)) ∧ w' = w := Any.strings_IndexByte Tryz.lays137 s c w
def Tryz.lays99_ren : Go.Shelf.Ren := ⟨fun | 99 => 118 | 206 => 158 | n => n, fun | 0 => 0 | 3 => 3 | 4 => 4 | 5 => 5 | 9 => 9 | 20 => 20 | n => n, fun | n => n⟩
theorem Tryz.lays99 : Go.Proofs.Lays.n99 Tryz.prog Tryz.lays99_ren := {
 mixed := by kernel_rfl
 f99 := Tryz.func118.trans (congrArg some (by kernel_rfl))
 f206 := Tryz.func158.trans (congrArg some (by kernel_rfl))
 t3 := Tryz.underlying3
 a3 := Tryz.isAgg3
 z3 := Tryz.sizeOf3
 v3 := Tryz.zeroValue3
 t4 := Tryz.underlying4
 a4 := Tryz.isAgg4
 z4 := Tryz.sizeOf4
 v4 := Tryz.zeroValue4
 t9 := Tryz.underlying9
 a9 := Tryz.isAgg9
 z9 := Tryz.sizeOf9
 v9 := Tryz.zeroValue9 }
theorem Tryz.strings_HasPrefix (s p : ByteArray) (w : World) :
  Calls Tryz.prog 118 #[.string s, .string p] w fun e w' => e = .returned (.bool (Lib.hasPrefix s.data.toList p.data.toList)) ∧ w' = w := Any.strings_HasPrefix Tryz.lays99 s p w
end Go.Proofs
namespace Go.Proofs.YtfccpddehpgfoaaGreatDoor
open Go.RowKit
set_option linter.unusedVariables false
theorem ZfC (s : ByteArray) (i n : Nat) (w : World) (hs : s.size ≤ maxLen) (hi : i < s.size) (hl : Tk.isL (s[i].toNat : Int) = true) (hn : Tk.run Tk.isLD ((Tk.B s).drop i) = n) (h12 : n ≤ 12) :
  Calls Tryz.prog 68 #[.string s, .int .i64 i] w fun e w' => e = .returned (Zbc 1 i n s) ∧ Below w.heap.size w w' := by
 have hs' := hs
 unfold maxLen at hs'
 have HS := Hd hs
 have hi0 : (0 : Int) ≤ (i : Int) := by omega
 have hi1 : (i : Int) < (s.size : Int) := by omega
 have HL := Hd hl
 have HN := Hd hn
 clear hl hn
 clear hs
 go_enter Tryz.func68, Tryz.ntmps68
 go_wp2_with fail
 refine (Zbf _ _).mono ?_
 rintro e w' ⟨rfl, rfl⟩
 rw [uh HL]
 go_wp2_with fail
 refine (Zlg s i n _ (uh HS) (by omega) (uh HN) h12).mono ?_
 rintro e w' ⟨rfl, hb⟩
 obtain ⟨hc, hf⟩ := Zky hb
 have hz : w.heap.size < w'.heap.size := by have := hb.size; simp at this; omega
 have HB := Hd hb
 clear hb
 unfold Zbc
 go_wp2_with fail
 exact bodyPost_ret (v := Zbc 1 i n s) (by simp [results, Tryz.results68, go_sem, Zbc, hc]) rfl ⟨rfl, (((Zbk (uh HB)).setCell Zl _).setCell Zl _).setCell Zl _⟩
theorem ZeC (s : ByteArray) (i n : Nat) (w : World) (hs : s.size ≤ maxLen) (hi : i < s.size) (hl : Tk.isL (s[i].toNat : Int) = true) (hn : Tk.run Tk.isLD ((Tk.B s).drop i) = n) (h12 : 12 < n) :
  Calls Tryz.prog 68 #[.string s, .int .i64 i] w fun e w' => e = .panicked (ZbO i 2) ∧ Below w.heap.size w w' := by
 have hs' := hs
 unfold maxLen at hs'
 have HS := Hd hs
 have hi0 : (0 : Int) ≤ (i : Int) := by omega
 have hi1 : (i : Int) < (s.size : Int) := by omega
 have HL := Hd hl
 have HN := Hd hn
 clear hl hn
 clear hs
 go_enter Tryz.func68, Tryz.ntmps68
 go_wp2_with fail
 refine (Zbf _ _).mono ?_
 rintro e w' ⟨rfl, rfl⟩
 rw [uh HL]
 go_wp2_with fail
 refine (Zju s i n _ (uh HS) (by omega) (uh HN) h12).mono ?_
 rintro e w' ⟨rfl, hb⟩
 exact ⟨rfl, rfl, Zbk hb⟩
theorem Zgb (s : ByteArray) (i n : Nat) (w : World) (hs : s.size ≤ maxLen) (hi : i < s.size) (hl : Tk.isL (s[i].toNat : Int) = false) (hd : Tk.isD (s[i].toNat : Int) = true) (hn : Tk.run Tk.isD ((Tk.B s).drop i) = n) (h7 : n ≤ 7) (hz0 : ((s[i].toNat : Int) == 48) = false ∨ n ≤ 1) :
  Calls Tryz.prog 68 #[.string s, .int .i64 i] w fun e w' => e = .returned (Zbc 2 i n s) ∧ Below w.heap.size w w' := by
 have hs' := hs
 unfold maxLen at hs'
 have HS := Hd hs
 have hi0 : (0 : Int) ≤ (i : Int) := by omega
 have hi1 : (i : Int) < (s.size : Int) := by omega
 have HL := Hd hl
 have HD := Hd hd
 have HN := Hd hn
 clear hl hd hn
 have HZ := Hd hz0
 clear hz0
 clear hs
 go_enter Tryz.func68, Tryz.ntmps68
 go_wp2_with fail
 refine (Zbf _ _).mono ?_
 rintro e w' ⟨rfl, rfl⟩
 rw [uh HL]
 go_wp2_with fail
 refine (ZbG _ _).mono ?_
 rintro e w' ⟨rfl, rfl⟩
 rw [uh HD]
 go_wp2_with fail
 refine (Zi1 s i n _ (uh HS) (by omega) (uh HN) h7 (uh HZ)).mono ?_
 rintro e w' ⟨rfl, hb⟩
 obtain ⟨hc, hf⟩ := Zky hb
 have hz : w.heap.size < w'.heap.size := by have := hb.size; simp at this; omega
 have HB := Hd hb
 clear hb
 unfold Zbc
 go_wp2_with fail
 exact bodyPost_ret (v := Zbc 2 i n s) (by simp [results, Tryz.results68, go_sem, Zbc, hc]) rfl ⟨rfl, (((Zbk (uh HB)).setCell Zl _).setCell Zl _).setCell Zl _⟩
theorem Zfc (s : ByteArray) (i n : Nat) (w : World) (hs : s.size ≤ maxLen) (hi : i < s.size) (hl : Tk.isL (s[i].toNat : Int) = false) (hd : Tk.isD (s[i].toNat : Int) = true) (hn : Tk.run Tk.isD ((Tk.B s).drop i) = n) (h7 : 7 < n) :
  Calls Tryz.prog 68 #[.string s, .int .i64 i] w fun e w' => e = .panicked (ZbO i 2) ∧ Below w.heap.size w w' := by
 have hs' := hs
 unfold maxLen at hs'
 have HS := Hd hs
 have hi0 : (0 : Int) ≤ (i : Int) := by omega
 have hi1 : (i : Int) < (s.size : Int) := by omega
 have HL := Hd hl
 have HD := Hd hd
 have HN := Hd hn
 clear hl hd hn
 clear hs
 go_enter Tryz.func68, Tryz.ntmps68
 go_wp2_with fail
 refine (Zbf _ _).mono ?_
 rintro e w' ⟨rfl, rfl⟩
 rw [uh HL]
 go_wp2_with fail
 refine (ZbG _ _).mono ?_
 rintro e w' ⟨rfl, rfl⟩
 rw [uh HD]
 go_wp2_with fail
 refine (Zhk s i n _ (uh HS) (by omega) (uh HN) h7).mono ?_
 rintro e w' ⟨rfl, hb⟩
 exact ⟨rfl, rfl, Zbk hb⟩
theorem Zee (s : ByteArray) (i n : Nat) (w : World) (hs : s.size ≤ maxLen) (hi : i < s.size) (hl : Tk.isL (s[i].toNat : Int) = false) (hd : Tk.isD (s[i].toNat : Int) = true) (hn : Tk.run Tk.isD ((Tk.B s).drop i) = n) (h7 : n ≤ 7) (hz0 : ((s[i].toNat : Int) == 48) = true) (h1 : 1 < n) :
  Calls Tryz.prog 68 #[.string s, .int .i64 i] w fun e w' => e = .panicked (ZbO i 1) ∧ Below w.heap.size w w' := by
 have hs' := hs
 unfold maxLen at hs'
 have HS := Hd hs
 have hi0 : (0 : Int) ≤ (i : Int) := by omega
 have hi1 : (i : Int) < (s.size : Int) := by omega
 have HL := Hd hl
 have HD := Hd hd
 have HN := Hd hn
 clear hl hd hn
 have HZ := Hd hz0
 clear hz0
 clear hs
 go_enter Tryz.func68, Tryz.ntmps68
 go_wp2_with fail
 refine (Zbf _ _).mono ?_
 rintro e w' ⟨rfl, rfl⟩
 rw [uh HL]
 go_wp2_with fail
 refine (ZbG _ _).mono ?_
 rintro e w' ⟨rfl, rfl⟩
 rw [uh HD]
 go_wp2_with fail
 refine (Zfp s i n _ (uh HS) (by omega) (uh HN) h7 (uh HZ) h1).mono ?_
 rintro e w' ⟨rfl, hb⟩
 exact ⟨rfl, rfl, Zbk hb⟩
theorem ZiS (s : ByteArray) (i : Nat) (w : World) (hs : s.size ≤ maxLen) (hi : i < s.size) (hl : Tk.isL (s[i].toNat : Int) = false) (hd : Tk.isD (s[i].toNat : Int) = false) (hp : Lib.hasPrefix (s.extract i s.size).data.toList [61, 61] = true) :
  Calls Tryz.prog 68 #[.string s, .int .i64 i] w fun e w' => e = .returned (Zbc 3 i 2 s) ∧ Below w.heap.size w w' := by
 have hs' := hs
 unfold maxLen at hs'
 have HS := Hd hs
 have hi0 : (0 : Int) ≤ (i : Int) := by omega
 have hi1 : (i : Int) < (s.size : Int) := by omega
 have HL := Hd hl
 have HD := Hd hd
 have HP := Hd hp
 clear hl hd hp
 clear hs
 go_enter Tryz.func68, Tryz.ntmps68
 go_wp2_with fail
 refine (Zbf _ _).mono ?_
 rintro e w' ⟨rfl, rfl⟩
 rw [uh HL]
 go_wp2_with fail
 refine (ZbG _ _).mono ?_
 rintro e w' ⟨rfl, rfl⟩
 rw [uh HD]
 go_wp2_with fail
 refine (Tryz.strings_HasPrefix _ _ _).mono ?_
 rintro e w' ⟨rfl, rfl⟩
 rw [show (⟨#[61, 61]⟩ : ByteArray).data.toList = [61, 61] from rfl, uh HP]
 go_wp2_with fail
 have ht : Zbc 3 i 2 s = .agg #[.int .i64 3, .int .i64 i, .string ⟨#[61, 61]⟩] := by unfold Zbc; rw [Tk.two_text s i hi (uh HP)]
 exact bodyPost_ret (v := .agg #[.int .i64 3, .int .i64 i, .string ⟨#[61, 61]⟩]) (by simp [results, Tryz.results68, go_sem]) rfl ⟨by rw [ht], Zr.alloc Zl _⟩
theorem Zi4 (s : ByteArray) (i : Nat) (w : World) (hs : s.size ≤ maxLen) (hi : i < s.size) (hl : Tk.isL (s[i].toNat : Int) = false) (hd : Tk.isD (s[i].toNat : Int) = false) (hp : Lib.hasPrefix (s.extract i s.size).data.toList [61, 61] = false) (hg : Tk.isSign (s[i].toNat : Int) = true) :
  Calls Tryz.prog 68 #[.string s, .int .i64 i] w fun e w' => e = .returned (Zbc 3 i 1 s) ∧ Below w.heap.size w w' := by
 have hs' := hs
 unfold maxLen at hs'
 have HS := Hd hs
 have hi0 : (0 : Int) ≤ (i : Int) := by omega
 have hi1 : (i : Int) < (s.size : Int) := by omega
 have HL := Hd hl
 have HD := Hd hd
 have HP := Hd hp
 clear hl hd hp
 have HG := Hd hg
 clear hg
 clear hs
 go_enter Tryz.func68, Tryz.ntmps68
 go_wp2_with fail
 refine (Zbf _ _).mono ?_
 rintro e w' ⟨rfl, rfl⟩
 rw [uh HL]
 go_wp2_with fail
 refine (ZbG _ _).mono ?_
 rintro e w' ⟨rfl, rfl⟩
 rw [uh HD]
 go_wp2_with fail
 refine (Tryz.strings_HasPrefix _ _ _).mono ?_
 rintro e w' ⟨rfl, rfl⟩
 rw [show (⟨#[61, 61]⟩ : ByteArray).data.toList = [61, 61] from rfl, uh HP]
 go_wp2_with fail
 refine (Tryz.strings_IndexByte _ _ _).mono ?_
 rintro e w' ⟨rfl, rfl⟩
 have hsg := Tk.signs_at s[i]
 rw [uh HG] at hsg
 rw [show (⟨#[123, 125, 40, 41, 91, 93, 59, 44, 61, 43, 45, 42, 47, 37, 60]⟩ : ByteArray).data.toList = [123, 125, 40, 41, 91, 93, 59, 44, 61, 43, 45, 42, 47, 37, 60] from rfl]
 generalize Lib.indexByte [123, 125, 40, 41, 91, 93, 59, 44, 61, 43, 45, 42, 47, 37, 60] ((s[i].toNat : Int).toNat.toUInt8) = ix at *
 have hix : 0 ≤ ix := of_decide_eq_true hsg
 clear hsg
 go_wp2_with fail
 exact bodyPost_ret (v := Zbc 3 i 1 s) (by simp [results, Tryz.results68, go_sem, Zbc]) rfl ⟨rfl, Zr.alloc Zl _⟩
theorem Zh5 (s : ByteArray) (i : Nat) (w : World) (hs : s.size ≤ maxLen) (hi : i < s.size) (hl : Tk.isL (s[i].toNat : Int) = false) (hd : Tk.isD (s[i].toNat : Int) = false) (hp : Lib.hasPrefix (s.extract i s.size).data.toList [61, 61] = false) (hg : Tk.isSign (s[i].toNat : Int) = false) :
  Calls Tryz.prog 68 #[.string s, .int .i64 i] w fun e w' => e = .panicked (ZbO i 1) ∧ Below w.heap.size w w' := by
 have hs' := hs
 unfold maxLen at hs'
 have HS := Hd hs
 have hi0 : (0 : Int) ≤ (i : Int) := by omega
 have hi1 : (i : Int) < (s.size : Int) := by omega
 have HL := Hd hl
 have HD := Hd hd
 have HP := Hd hp
 clear hl hd hp
 have HG := Hd hg
 clear hg
 clear hs
 go_enter Tryz.func68, Tryz.ntmps68
 go_wp2_with fail
 refine (Zbf _ _).mono ?_
 rintro e w' ⟨rfl, rfl⟩
 rw [uh HL]
 go_wp2_with fail
 refine (ZbG _ _).mono ?_
 rintro e w' ⟨rfl, rfl⟩
 rw [uh HD]
 go_wp2_with fail
 refine (Tryz.strings_HasPrefix _ _ _).mono ?_
 rintro e w' ⟨rfl, rfl⟩
 rw [show (⟨#[61, 61]⟩ : ByteArray).data.toList = [61, 61] from rfl, uh HP]
 go_wp2_with fail
 refine (Tryz.strings_IndexByte _ _ _).mono ?_
 rintro e w' ⟨rfl, rfl⟩
 have hsg := Tk.signs_at s[i]
 rw [uh HG] at hsg
 rw [show (⟨#[123, 125, 40, 41, 91, 93, 59, 44, 61, 43, 45, 42, 47, 37, 60]⟩ : ByteArray).data.toList = [123, 125, 40, 41, 91, 93, 59, 44, 61, 43, 45, 42, 47, 37, 60] from rfl]
 generalize Lib.indexByte [123, 125, 40, 41, 91, 93, 59, 44, 61, 43, 45, 42, 47, 37, 60] ((s[i].toNat : Int).toNat.toUInt8) = ix at *
 have hix : ix < 0 := by have := of_decide_eq_false hsg; omega
 clear hsg
 go_wp2_with fail
 exact ⟨rfl, rfl, Zr.alloc Zl _⟩
end Go.Proofs.YtfccpddehpgfoaaGreatDoor
namespace Go.Proofs.YtfccpddehpgfoaaGreatDoor.Tk
set_option linter.unusedVariables false
def scl : List Int → Nat → Nat → Bool → List (Nat × Nat × Nat) → List (Nat × Nat × Nat) × Nat × Nat
 | [], _, _, _, acc => (acc, 0, 0)
 | _ :: r, pos, skip + 1, note, acc => scl r (pos + 1) skip note acc
 | c :: r, pos, 0, note, acc =>
  if note || c == 35 then scl r (pos + 1) 0 (!(c == 10)) acc
  else if c == 32 || c == 9 || c == 10 then scl r (pos + 1) 0 false acc
  else if bad (c :: r) = 0 then scl r (pos + 1) (tokN (c :: r) - 1) false (acc ++ [(tokK (c :: r), pos, tokN (c :: r))])
  else ([], pos, bad (c :: r))
theorem scl_nil (pos k : Nat) (b : Bool) (acc : List (Nat × Nat × Nat)) : scl [] pos k b acc = (acc, 0, 0) := by cases k <;> cases b <;> rfl
theorem scl_note (c : Int) (r : List Int) (pos : Nat) (acc : List (Nat × Nat × Nat)) : scl (c :: r) pos 0 true acc = scl r (pos + 1) 0 (!(c == 10)) acc := by simp [scl]
theorem scl_hash (c : Int) (r : List Int) (pos : Nat) (b : Bool) (acc : List (Nat × Nat × Nat)) (h : (c == 35) = true) : scl (c :: r) pos 0 b acc = scl r (pos + 1) 0 (!(c == 10)) acc := by simp [scl, h]
theorem scl_blank (c : Int) (r : List Int) (pos : Nat) (acc : List (Nat × Nat × Nat)) (h35 : (c == 35) = false) (h : (c == 32 || c == 9 || c == 10) = true) : scl (c :: r) pos 0 false acc = scl r (pos + 1) 0 false acc := by
 rw [scl]; simp only [h35, h, Bool.false_or, Zb, if_false, if_true]
theorem scl_skip1 (c : Int) (r : List Int) (pos k : Nat) (b : Bool) (acc : List (Nat × Nat × Nat)) : scl (c :: r) pos (k + 1) b acc = scl r (pos + 1) k b acc := by cases b <;> simp [scl]
theorem scl_gap (l : List Int) : ∀ (pos : Nat) (b : Bool) (acc : List (Nat × Nat × Nat)), scl l pos 0 b acc = scl (l.drop (gap b l)) (pos + gap b l) 0 false acc := by
 induction l with
 | nil => intro pos b acc; rw [List.drop_nil, scl_nil, scl_nil]
 | cons c r ih =>
  intro pos b acc
  cases b with
  | true =>
   rw [scl_note, ih]
   cases h : (c == 10)
   · simp only [gap, h, Bool.not_false, Zb, if_false, List.drop_succ_cons]
     rw [show pos + 1 + gap true r = pos + (gap true r + 1) from by omega]
   simp only [gap, h, Bool.not_true, if_true, List.drop_succ_cons]
   rw [show pos + 1 + gap false r = pos + (gap false r + 1) from by omega]
  | false =>
   cases hb : (c == 32 || c == 9 || c == 10)
   · cases h35 : (c == 35)
     · simp [gap, hb, h35]
     have h10 : (c == 10) = false := by
      have : c = 35 := by simpa using h35
      subst this; rfl
     rw [scl_hash c r pos false acc h35, ih, h10]
     simp only [gap, hb, h35, Bool.not_false, Zb, if_false, if_true, List.drop_succ_cons]
     rw [show pos + 1 + gap true r = pos + (gap true r + 1) from by omega]
   have h35 : (c == 35) = false := by
    cases h : (c == 35)
    · rfl
    have : c = 35 := by simpa using h
    subst this; cases hb
   rw [scl_blank c r pos acc h35 hb, ih]
   simp only [gap, hb, if_true, List.drop_succ_cons]
   rw [show pos + 1 + gap false r = pos + (gap false r + 1) from by omega]
theorem gap_gap (l : List Int) : ∀ b : Bool, gap false (l.drop (gap b l)) = 0 := by
 induction l with
 | nil => intro b; cases b <;> rfl
 | cons c r ih =>
  intro b
  cases b with
  | true =>
   cases h : (c == 10)
   · simp only [gap, h, Zb, if_false, List.drop_succ_cons]; exact ih true
   simp only [gap, h, if_true, List.drop_succ_cons]; exact ih false
  | false =>
   cases hb : (c == 32 || c == 9 || c == 10)
   · cases h35 : (c == 35)
     · have e : gap false (c :: r) = 0 := by simp [gap, hb, h35]
       rw [e]; exact e
     simp only [gap, hb, h35, Zb, if_false, if_true, List.drop_succ_cons]; exact ih true
   simp only [gap, hb, if_true, List.drop_succ_cons]; exact ih false
theorem scl_skip (k : Nat) : ∀ (l : List Int) (pos : Nat) (b : Bool) (acc : List (Nat × Nat × Nat)), scl l pos k b acc = scl (l.drop k) (pos + k) 0 b acc := by
 induction k with
 | zero => intro l pos b acc; rfl
 | succ k ih =>
  intro l pos b acc
  cases l with
  | nil => rw [scl_nil, List.drop_nil, scl_nil]
  | cons c r =>
   rw [scl_skip1, ih, List.drop_succ_cons]
   rw [show pos + 1 + k = pos + (k + 1) from by omega]
def free (c : Int) : Bool := !(c == 32 || c == 9 || c == 10) && !(c == 35)
theorem gap_free (c : Int) (r : List Int) : gap false (c :: r) = 0 ↔ free c = true := by
 cases hb : (c == 32 || c == 9 || c == 10) <;> cases h35 : (c == 35) <;> simp [gap, free, hb, h35]
theorem bad_cons (c : Int) (r : List Int) : bad (c :: r) = if isL c then (if 12 < run isLD r + 1 then 2 else 0) else if isD c then (if 7 < run isD r + 1 then 2 else if c == 48 && decide (1 < run isD r + 1) then 1 else 0)
  else if c == 61 && r.head? == some 61 then 0 else if isSign c then 0 else 1 := rfl
theorem tokN_cons (c : Int) (r : List Int) : tokN (c :: r) = if isL c then run isLD r + 1 else if isD c then run isD r + 1 else if c == 61 && r.head? == some 61 then 2 else if isSign c then 1 else 0 := rfl
theorem tokK_cons (c : Int) (r : List Int) : tokK (c :: r) = if isL c then 1 else if isD c then 2 else if c == 61 && r.head? == some 61 then 3 else if isSign c then 3 else 0 := rfl
theorem tokN_pos (c : Int) (r : List Int) (h : bad (c :: r) = 0) : 0 < tokN (c :: r) := by
 rw [bad_cons] at h; rw [tokN_cons]
 cases h1 : isL c
 · cases h2 : isD c
   · cases h3 : (c == 61 && r.head? == some 61)
     · cases h4 : isSign c
       · simp [h1, h2, h3, h4] at h
       simp
     simp
   simp
 simp
theorem tokN_le (l : List Int) : tokN l ≤ l.length := by
 cases l with
 | nil => exact Nat.le_refl _
 | cons c r =>
  have e1 := run_le isLD r
  have e2 := run_le isD r
  rw [tokN_cons, Zo]
  cases h1 : isL c
  · cases h2 : isD c
    · cases h3 : (c == 61 && r.head? == some 61)
      · cases h4 : isSign c <;> simp
      cases r with
      | nil => simp at h3
      | cons d q => simp
    simp; omega
  simp; omega
theorem scl_tok (c : Int) (r : List Int) (pos : Nat) (acc : List (Nat × Nat × Nat)) (hf : free c = true) (hb : bad (c :: r) = 0) :
  scl (c :: r) pos 0 false acc = scl ((c :: r).drop (tokN (c :: r))) (pos + tokN (c :: r)) 0 false (acc ++ [(tokK (c :: r), pos, tokN (c :: r))]) := by
 have hp := tokN_pos c r hb
 have hb2 : (c == 32 || c == 9 || c == 10) = false := by unfold free at hf; revert hf; cases (c == 32 || c == 9 || c == 10) <;> simp
 have h35 : (c == 35) = false := by unfold free at hf; revert hf; cases (c == 35) <;> simp
 have e : scl (c :: r) pos 0 false acc = scl r (pos + 1) (tokN (c :: r) - 1) false (acc ++ [(tokK (c :: r), pos, tokN (c :: r))]) := by
  rw [scl]; simp [h35, hb2, hb]
 rw [e, scl_skip]
 obtain ⟨m, hm⟩ : ∃ m, tokN (c :: r) = m + 1 := ⟨tokN (c :: r) - 1, by omega⟩
 rw [hm, List.drop_succ_cons, Nat.add_sub_cancel, show pos + 1 + m = pos + (m + 1) from by omega]
theorem scl_bad (c : Int) (r : List Int) (pos : Nat) (acc : List (Nat × Nat × Nat)) (hf : free c = true) (hb : bad (c :: r) ≠ 0) :
  scl (c :: r) pos 0 false acc = ([], pos, bad (c :: r)) := by
 have hb2 : (c == 32 || c == 9 || c == 10) = false := by unfold free at hf; revert hf; cases (c == 32 || c == 9 || c == 10) <;> simp
 have h35 : (c == 35) = false := by unfold free at hf; revert hf; cases (c == 35) <;> simp
 rw [scl]; simp [h35, hb2, hb]
end Go.Proofs.YtfccpddehpgfoaaGreatDoor.Tk
namespace Go.Proofs.YtfccpddehpgfoaaGreatDoor
open Go.RowKit
set_option linter.unusedVariables false
theorem ZkD (s : ByteArray) (i : Nat) (w : World) (hs : s.size ≤ maxLen) (hi : i < s.size) (hb : Tk.bad ((Tk.B s).drop i) = 0) :
  Calls Tryz.prog 68 #[.string s, .int .i64 i] w fun e w' => e = .returned (Zbc ((Tk.tokK ((Tk.B s).drop i) : Nat) : Int) i (Tk.tokN ((Tk.B s).drop i)) s) ∧ Below w.heap.size w w' := by
 have hd := Tk.B_drop s i hi
 have hr1 := Zbr Tk.isLD s i hi
 have hr2 := Zbr Tk.isD s i hi
 have ht := Tk.two_at s i hi
 rw [hd] at hb ⊢
 rw [Tk.bad_cons] at hb
 rw [Tk.tokK_cons, Tk.tokN_cons]
 cases h1 : Tk.isL (s[i].toNat : Int)
 · cases h2 : Tk.isD (s[i].toNat : Int)
   · cases h3 : ((s[i].toNat : Int) == 61 && ((Tk.B s).drop (i + 1)).head? == some 61)
     · cases h4 : Tk.isSign (s[i].toNat : Int)
       · rw [h1, h2, h3, h4] at hb; cases hb
       simp only [Zb, if_false, if_true]
       exact Zi4 s i w hs hi h1 h2 (ht.trans h3) h4
     simp only [Zb, if_false, if_true]
     exact ZiS s i w hs hi h1 h2 (ht.trans h3)
   simp only [Zb, if_false, if_true]
   simp only [h1, h2, Zb, if_false, if_true] at hb hr2
   refine Zgb s i _ w hs hi h1 h2 hr2 ?_ ?_
   · apply Classical.byContradiction; intro h; rw [if_pos (by omega)] at hb; cases hb
   cases h48 : ((s[i].toNat : Int) == 48)
   · exact Or.inl rfl
   right
   apply Classical.byContradiction; intro h
   have h7 : ¬ 7 < Tk.run Tk.isD ((Tk.B s).drop (i + 1)) + 1 := by intro h'; rw [if_pos h'] at hb; cases hb
   rw [if_neg h7, h48, decide_eq_true (by omega)] at hb
   cases hb
 simp only [if_true]
 simp only [h1, if_true] at hb
 have hld : Tk.isLD (s[i].toNat : Int) = true := by simp [Tk.isLD, h1]
 rw [hld] at hr1
 refine ZfC s i _ w hs hi h1 hr1 ?_
 apply Classical.byContradiction; intro h; rw [if_pos (by omega)] at hb; cases hb
theorem Ziz (s : ByteArray) (i : Nat) (w : World) (hs : s.size ≤ maxLen) (hi : i < s.size) (hb : Tk.bad ((Tk.B s).drop i) ≠ 0) :
  Calls Tryz.prog 68 #[.string s, .int .i64 i] w fun e w' => e = .panicked (ZbO i ((Tk.bad ((Tk.B s).drop i) : Nat) : Int)) ∧ Below w.heap.size w w' := by
 have hd := Tk.B_drop s i hi
 have hr1 := Zbr Tk.isLD s i hi
 have hr2 := Zbr Tk.isD s i hi
 have ht := Tk.two_at s i hi
 rw [hd] at hb ⊢
 rw [Tk.bad_cons] at hb ⊢
 cases h1 : Tk.isL (s[i].toNat : Int)
 · cases h2 : Tk.isD (s[i].toNat : Int)
   · cases h3 : ((s[i].toNat : Int) == 61 && ((Tk.B s).drop (i + 1)).head? == some 61)
     · cases h4 : Tk.isSign (s[i].toNat : Int)
       · simp only [Zb, if_false]
         exact Zh5 s i w hs hi h1 h2 (ht.trans h3) h4
       rw [h1, h2, h3, h4] at hb; exact absurd rfl hb
     rw [h1, h2, h3] at hb; exact absurd rfl hb
   simp only [h1, h2, Zb, if_false, if_true] at hb hr2 ⊢
   by_cases h7 : 7 < Tk.run Tk.isD ((Tk.B s).drop (i + 1)) + 1
   · rw [if_pos h7]
     exact Zfc s i _ w hs hi h1 h2 hr2 h7
   rw [if_neg h7] at hb ⊢
   cases h48 : ((s[i].toNat : Int) == 48 && decide (1 < Tk.run Tk.isD ((Tk.B s).drop (i + 1)) + 1))
   · rw [h48] at hb; exact absurd rfl hb
   simp only [if_true]
   rw [Bool.and_eq_true] at h48
   exact Zee s i _ w hs hi h1 h2 hr2 (by omega) h48.1 (of_decide_eq_true h48.2)
 simp only [h1, if_true] at hb ⊢
 have hld : Tk.isLD (s[i].toNat : Int) = true := by simp [Tk.isLD, h1]
 rw [hld] at hr1
 by_cases h12 : 12 < Tk.run Tk.isLD ((Tk.B s).drop (i + 1)) + 1
 · rw [if_pos h12]
   exact ZeC s i _ w hs hi h1 hr1 h12
 rw [if_neg h12] at hb; exact absurd rfl hb
end Go.Proofs.YtfccpddehpgfoaaGreatDoor
