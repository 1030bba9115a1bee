/-
  PVal, PVars, PReckon, PAlA, XBase. By the verifier.
-/
import Derived.Test.YtpfogjplnodacaaGreatLC
import Derived.Deep.RegionHeld3
import Derived.Deep.DeepCutAuto
import Derived.Test.YtpfogjplnodacaaGreatPLeaf
import Derived.Maps.AppendAt
import Derived.Deep.AppendLies
set_option maxRecDepth 100000
set_option maxHeartbeats 3200000
namespace Go.Proofs.YtpfogjplnodacaaGreat
open Go.RowKit
set_option linter.unusedVariables false
theorem oneIf_any (b : Bool) (w : World) : Calls Tryz.prog 111 #[.bool b] w fun r w' => r = .returned (.int .i64 (if b then 1 else 0)) ∧ w' = w := by
 go_enter Tryz.func111, Tryz.ntmps111
 cases b
 · go_wp2_with fail
   go_ret
   exact ⟨rfl, rfl⟩
 · go_wp2_with fail
   go_ret
   exact ⟨rfl, rfl⟩
theorem isCell_any (z : Int) (a : Option Addr) (l c : Nat) (w : World) (hl : l ≤ 35184372088832) : Calls Tryz.prog 96 #[.int .i64 z, .slice a l c] w fun r w' => r = .returned (.bool (decide (0 ≤ z ∧ z < (l : Int)))) ∧ w' = w := by
 obtain ⟨D, hD⟩ : ∃ D, D = decide (0 ≤ z ∧ z < (l : Int)) := ⟨_, rfl⟩
 rw [← hD]
 have HD := hide hD
 clear hD
 go_enter Tryz.func96, Tryz.ntmps96
 by_cases h0 : z ≥ 0
 · have HE := hide (show D = decide (z < (l : Int)) by rw [unhide HD]; exact decide_eq_decide.2 ⟨fun h => h.2, fun h => ⟨h0, h⟩⟩)
   go_wp2_with fail
   go_ret
   exact ⟨ret_bool (unhide HE).symm, rfl⟩
 · have HE := hide (show D = false by rw [unhide HD]; exact decide_eq_false (fun h => h0 h.1))
   go_wp2_with fail
   go_ret
   exact ⟨ret_bool (unhide HE).symm, rfl⟩
def Pg.w32 (n : Int) : Int := wrap32 n
theorem Pg.w32_fix (n : Int) : wrap64 (wrap32 n) = Pg.w32 n := by unfold Pg.w32 wrap64 wrap32; omega
theorem Pg.tmod_32 (n : Int) : n.tmod 4294967296 = n % 4294967296 ∨ n.tmod 4294967296 = n % 4294967296 - 4294967296 := by
 rw [Int.tmod_eq_emod]
 split
 · left; omega
 · right; simp
theorem Wrap_any (n : Int) (w : World) : Calls Tryz.prog 93 #[.int .i64 n] w fun r w' => r = .returned (.int .i64 (Pg.w32 n)) ∧ w' = w := by
 have hT := Pg.tmod_32 n
 have hlo : -4294967296 ≤ n.tmod 4294967296 := by omega
 have hhi : n.tmod 4294967296 < 4294967296 := by omega
 have HT := hide hT
 clear hT
 obtain ⟨R, hR⟩ : ∃ R, R = Pg.w32 n := ⟨_, rfl⟩
 rw [← hR]
 have HR := hide (show R = (n + 2147483648) % 4294967296 - 2147483648 by rw [hR]; unfold Pg.w32 wrap32; omega)
 clear hR
 go_enter Tryz.func93, Tryz.ntmps93
 by_cases c1 : n.tmod 4294967296 < 0
 · by_cases c2 : n.tmod 4294967296 + 4294967296 > 2147483647
   · have HF := hide (show n.tmod 4294967296 + 4294967296 - 4294967296 = R by have a := unhide HT; have b := unhide HR; omega)
     go_wp2_with fail
     go_ret
     exact ⟨ret_int (by have := unhide HF; omega), rfl⟩
   · have HF := hide (show n.tmod 4294967296 + 4294967296 = R by have a := unhide HT; have b := unhide HR; omega)
     go_wp2_with fail
     go_ret
     exact ⟨ret_int (by have := unhide HF; omega), rfl⟩
 · by_cases c2 : n.tmod 4294967296 > 2147483647
   · have HF := hide (show n.tmod 4294967296 - 4294967296 = R by have a := unhide HT; have b := unhide HR; omega)
     go_wp2_with fail
     go_ret
     exact ⟨ret_int (by have := unhide HF; omega), rfl⟩
   · have HF := hide (show n.tmod 4294967296 = R by have a := unhide HT; have b := unhide HR; omega)
     go_wp2_with fail
     go_ret
     exact ⟨ret_int (by have := unhide HF; omega), rfl⟩
def Pg.op (k a b : Int) : Int × Int :=
 if (k = 7 ∨ k = 8) ∧ b = 0 then (0, 2)
 else (Pg.w32 (if k = 4 then wrap64 (a + b) else if k = 5 then wrap64 (a - b) else if k = 6 then wrap64 (a * b) else if k = 7 then wrap64 (a.tdiv b) else if k = 8 then a.tmod b else if k = 9 then (if a < b then 1 else 0) else if k = 10 then (if a = b then 1 else 0) else a), 0)
theorem join_4 (a b : Int) (w : World) : Calls Tryz.prog 97 #[.int .i64 4, .int .i64 a, .int .i64 b] w fun r w' => r = .returned (.tuple #[.int .i64 (Pg.w32 (wrap64 (a + b))), .int .i64 0]) ∧ w' = w := by
 go_enter Tryz.func97, Tryz.ntmps97
 go_wp2_with fail
 exact bodyPost_ret (v := .tuple #[.int .i64 (wrap64 (wrap32 (wrap64 (a + b)))), .int .i64 0]) (by simp [results, Tryz.results97, go_sem]) rfl ⟨by rw [Pg.w32_fix], rfl⟩
theorem op_4 (a b : Int) (w : World) : Calls Tryz.prog 47 #[.int .i64 4, .int .i64 a, .int .i64 b] w fun r w' => r = .returned (.tuple #[.int .i64 (Pg.w32 (wrap64 (a + b))), .int .i64 0]) ∧ w' = w := by
 go_enter Tryz.func47, Tryz.ntmps47
 go_wp2_with fail
 refine (Wrap_any _ _).mono ?_
 rintro r w1 ⟨rfl, rfl⟩
 go_wp2_with fail
 exact bodyPost_ret (v := .tuple #[.int .i64 (Pg.w32 (wrap64 (a + b))), .int .i64 0]) (by simp [results, Tryz.results47, go_sem]) rfl ⟨by rfl, rfl⟩
theorem join_5 (a b : Int) (w : World) : Calls Tryz.prog 97 #[.int .i64 5, .int .i64 a, .int .i64 b] w fun r w' => r = .returned (.tuple #[.int .i64 (Pg.w32 (wrap64 (a - b))), .int .i64 0]) ∧ w' = w := by
 go_enter Tryz.func97, Tryz.ntmps97
 go_wp2_with fail
 exact bodyPost_ret (v := .tuple #[.int .i64 (wrap64 (wrap32 (wrap64 (a - b)))), .int .i64 0]) (by simp [results, Tryz.results97, go_sem]) rfl ⟨by rw [Pg.w32_fix], rfl⟩
theorem op_5 (a b : Int) (w : World) : Calls Tryz.prog 47 #[.int .i64 5, .int .i64 a, .int .i64 b] w fun r w' => r = .returned (.tuple #[.int .i64 (Pg.w32 (wrap64 (a - b))), .int .i64 0]) ∧ w' = w := by
 go_enter Tryz.func47, Tryz.ntmps47
 go_wp2_with fail
 refine (Wrap_any _ _).mono ?_
 rintro r w1 ⟨rfl, rfl⟩
 go_wp2_with fail
 exact bodyPost_ret (v := .tuple #[.int .i64 (Pg.w32 (wrap64 (a - b))), .int .i64 0]) (by simp [results, Tryz.results47, go_sem]) rfl ⟨by rfl, rfl⟩
theorem join_6 (a b : Int) (w : World) : Calls Tryz.prog 97 #[.int .i64 6, .int .i64 a, .int .i64 b] w fun r w' => r = .returned (.tuple #[.int .i64 (Pg.w32 (wrap64 (a * b))), .int .i64 0]) ∧ w' = w := by
 go_enter Tryz.func97, Tryz.ntmps97
 go_wp2_with fail
 exact bodyPost_ret (v := .tuple #[.int .i64 (wrap64 (wrap32 (wrap64 (a * b)))), .int .i64 0]) (by simp [results, Tryz.results97, go_sem]) rfl ⟨by rw [Pg.w32_fix], rfl⟩
theorem op_6 (a b : Int) (w : World) : Calls Tryz.prog 47 #[.int .i64 6, .int .i64 a, .int .i64 b] w fun r w' => r = .returned (.tuple #[.int .i64 (Pg.w32 (wrap64 (a * b))), .int .i64 0]) ∧ w' = w := by
 go_enter Tryz.func47, Tryz.ntmps47
 go_wp2_with fail
 refine (Wrap_any _ _).mono ?_
 rintro r w1 ⟨rfl, rfl⟩
 go_wp2_with fail
 exact bodyPost_ret (v := .tuple #[.int .i64 (Pg.w32 (wrap64 (a * b))), .int .i64 0]) (by simp [results, Tryz.results47, go_sem]) rfl ⟨by rfl, rfl⟩
theorem join_7 (a b : Int) (w : World) (hb : b ≠ 0) : Calls Tryz.prog 97 #[.int .i64 7, .int .i64 a, .int .i64 b] w fun r w' => r = .returned (.tuple #[.int .i64 (Pg.w32 (wrap64 (a.tdiv b))), .int .i64 0]) ∧ w' = w := by
 have g : (b == 0) = false := by simpa using hb
 go_enter Tryz.func97, Tryz.ntmps97
 go_wp2_with fail
 exact bodyPost_ret (v := .tuple #[.int .i64 (wrap64 (wrap32 (wrap64 (a.tdiv b)))), .int .i64 0]) (by simp [results, Tryz.results97, go_sem]) rfl ⟨by rw [Pg.w32_fix], rfl⟩
theorem op_7 (a b : Int) (w : World) (hb : b ≠ 0) : Calls Tryz.prog 47 #[.int .i64 7, .int .i64 a, .int .i64 b] w fun r w' => r = .returned (.tuple #[.int .i64 (Pg.w32 (wrap64 (a.tdiv b))), .int .i64 0]) ∧ w' = w := by
 have g : (b == 0) = false := by simpa using hb
 go_enter Tryz.func47, Tryz.ntmps47
 go_wp2_with fail
 refine (Wrap_any _ _).mono ?_
 rintro r w1 ⟨rfl, rfl⟩
 go_wp2_with fail
 exact bodyPost_ret (v := .tuple #[.int .i64 (Pg.w32 (wrap64 (a.tdiv b))), .int .i64 0]) (by simp [results, Tryz.results47, go_sem]) rfl ⟨by rfl, rfl⟩
theorem join_8 (a b : Int) (w : World) (hb : b ≠ 0) : Calls Tryz.prog 97 #[.int .i64 8, .int .i64 a, .int .i64 b] w fun r w' => r = .returned (.tuple #[.int .i64 (Pg.w32 (a.tmod b)), .int .i64 0]) ∧ w' = w := by
 have g : (b == 0) = false := by simpa using hb
 go_enter Tryz.func97, Tryz.ntmps97
 go_wp2_with fail
 exact bodyPost_ret (v := .tuple #[.int .i64 (wrap64 (wrap32 (a.tmod b))), .int .i64 0]) (by simp [results, Tryz.results97, go_sem]) rfl ⟨by rw [Pg.w32_fix], rfl⟩
theorem op_8 (a b : Int) (w : World) (hb : b ≠ 0) : Calls Tryz.prog 47 #[.int .i64 8, .int .i64 a, .int .i64 b] w fun r w' => r = .returned (.tuple #[.int .i64 (Pg.w32 (a.tmod b)), .int .i64 0]) ∧ w' = w := by
 have g : (b == 0) = false := by simpa using hb
 go_enter Tryz.func47, Tryz.ntmps47
 go_wp2_with fail
 refine (Wrap_any _ _).mono ?_
 rintro r w1 ⟨rfl, rfl⟩
 go_wp2_with fail
 exact bodyPost_ret (v := .tuple #[.int .i64 (Pg.w32 (a.tmod b)), .int .i64 0]) (by simp [results, Tryz.results47, go_sem]) rfl ⟨by rfl, rfl⟩
theorem Pg.w32_one : Pg.w32 1 = 1 := by unfold Pg.w32 wrap32; omega
theorem Pg.w32_zero : Pg.w32 0 = 0 := by unfold Pg.w32 wrap32; omega
theorem join_zero7 (a : Int) (w : World) : Calls Tryz.prog 97 #[.int .i64 7, .int .i64 a, .int .i64 0] w fun r w' => r = .returned (.tuple #[.int .i64 0, .int .i64 2]) ∧ w' = w := by
 go_enter Tryz.func97, Tryz.ntmps97
 go_wp2_with fail
 exact bodyPost_ret (v := .tuple #[.int .i64 0, .int .i64 2]) (by simp [results, Tryz.results97, go_sem]) rfl ⟨rfl, rfl⟩
theorem join_zero8 (a : Int) (w : World) : Calls Tryz.prog 97 #[.int .i64 8, .int .i64 a, .int .i64 0] w fun r w' => r = .returned (.tuple #[.int .i64 0, .int .i64 2]) ∧ w' = w := by
 go_enter Tryz.func97, Tryz.ntmps97
 go_wp2_with fail
 exact bodyPost_ret (v := .tuple #[.int .i64 0, .int .i64 2]) (by simp [results, Tryz.results97, go_sem]) rfl ⟨rfl, rfl⟩
theorem join_9yes (a b : Int) (w : World) (h : a < b) : Calls Tryz.prog 97 #[.int .i64 9, .int .i64 a, .int .i64 b] w fun r w' => r = .returned (.tuple #[.int .i64 1, .int .i64 0]) ∧ w' = w := by
 have g : a < b := h
 go_enter Tryz.func97, Tryz.ntmps97
 go_wp2_with fail
 refine (oneIf_any _ _).mono ?_
 rintro r w1 ⟨rfl, rfl⟩
 go_wp2_with fail
 exact bodyPost_ret (v := .tuple #[.int .i64 1, .int .i64 0]) (by simp [results, Tryz.results97, go_sem]) rfl ⟨rfl, rfl⟩
theorem join_9no (a b : Int) (w : World) (h : ¬ a < b) : Calls Tryz.prog 97 #[.int .i64 9, .int .i64 a, .int .i64 b] w fun r w' => r = .returned (.tuple #[.int .i64 0, .int .i64 0]) ∧ w' = w := by
 have g : ¬ a < b := h
 go_enter Tryz.func97, Tryz.ntmps97
 go_wp2_with fail
 refine (oneIf_any _ _).mono ?_
 rintro r w1 ⟨rfl, rfl⟩
 go_wp2_with fail
 exact bodyPost_ret (v := .tuple #[.int .i64 0, .int .i64 0]) (by simp [results, Tryz.results97, go_sem]) rfl ⟨rfl, rfl⟩
theorem join_10yes (a b : Int) (w : World) (h : a = b) : Calls Tryz.prog 97 #[.int .i64 10, .int .i64 a, .int .i64 b] w fun r w' => r = .returned (.tuple #[.int .i64 1, .int .i64 0]) ∧ w' = w := by
 have g : (a == b) = true := by simpa using h
 clear h
 go_enter Tryz.func97, Tryz.ntmps97
 go_wp2_with fail
 refine (oneIf_any _ _).mono ?_
 rintro r w1 ⟨rfl, rfl⟩
 go_wp2_with fail
 exact bodyPost_ret (v := .tuple #[.int .i64 1, .int .i64 0]) (by simp [results, Tryz.results97, go_sem]) rfl ⟨rfl, rfl⟩
theorem join_10no (a b : Int) (w : World) (h : ¬ a = b) : Calls Tryz.prog 97 #[.int .i64 10, .int .i64 a, .int .i64 b] w fun r w' => r = .returned (.tuple #[.int .i64 0, .int .i64 0]) ∧ w' = w := by
 have g : (a == b) = false := by simpa using h
 clear h
 go_enter Tryz.func97, Tryz.ntmps97
 go_wp2_with fail
 refine (oneIf_any _ _).mono ?_
 rintro r w1 ⟨rfl, rfl⟩
 go_wp2_with fail
 exact bodyPost_ret (v := .tuple #[.int .i64 0, .int .i64 0]) (by simp [results, Tryz.results97, go_sem]) rfl ⟨rfl, rfl⟩
theorem join_any (k a b : Int) (w : World) (hk : 4 ≤ k ∧ k ≤ 10) : Calls Tryz.prog 97 #[.int .i64 k, .int .i64 a, .int .i64 b] w fun r w' => r = .returned (.tuple #[.int .i64 (Pg.op k a b).1, .int .i64 (Pg.op k a b).2]) ∧ w' = w := by
 have h : k = 4 ∨ k = 5 ∨ k = 6 ∨ k = 7 ∨ k = 8 ∨ k = 9 ∨ k = 10 := by omega
 rcases h with rfl | rfl | rfl | rfl | rfl | rfl | rfl
 · exact join_4 a b w
 · exact join_5 a b w
 · exact join_6 a b w
 · by_cases hb : b = 0
   · subst hb; exact join_zero7 a w
   · rw [show Pg.op 7 a b = (Pg.w32 (wrap64 (a.tdiv b)), 0) by unfold Pg.op; rw [if_neg (fun h => hb h.2)]; rfl]
     exact join_7 a b w hb
 · by_cases hb : b = 0
   · subst hb; exact join_zero8 a w
   · rw [show Pg.op 8 a b = (Pg.w32 (a.tmod b), 0) by unfold Pg.op; rw [if_neg (fun h => hb h.2)]; rfl]
     exact join_8 a b w hb
 · by_cases h : a < b
   · rw [show Pg.op 9 a b = (1, 0) by unfold Pg.op; rw [if_neg (by omega)]; simp [h, Pg.w32_one]]
     exact join_9yes a b w h
   · rw [show Pg.op 9 a b = (0, 0) by unfold Pg.op; rw [if_neg (by omega)]; simp [h, Pg.w32_zero]]
     exact join_9no a b w h
 · by_cases h : a = b
   · rw [show Pg.op 10 a b = (1, 0) by unfold Pg.op; rw [if_neg (by omega)]; simp [h, Pg.w32_one]]
     exact join_10yes a b w h
   · rw [show Pg.op 10 a b = (0, 0) by unfold Pg.op; rw [if_neg (by omega)]; simp [h, Pg.w32_zero]]
     exact join_10no a b w h
theorem op_zero7 (a : Int) (w : World) : Calls Tryz.prog 47 #[.int .i64 7, .int .i64 a, .int .i64 0] w fun r w' => r = .returned (.tuple #[.int .i64 0, .int .i64 2]) ∧ w' = w := by
 go_enter Tryz.func47, Tryz.ntmps47
 go_wp2_with fail
 exact bodyPost_ret (v := .tuple #[.int .i64 0, .int .i64 2]) (by simp [results, Tryz.results47, go_sem]) rfl ⟨rfl, rfl⟩
theorem op_zero8 (a : Int) (w : World) : Calls Tryz.prog 47 #[.int .i64 8, .int .i64 a, .int .i64 0] w fun r w' => r = .returned (.tuple #[.int .i64 0, .int .i64 2]) ∧ w' = w := by
 go_enter Tryz.func47, Tryz.ntmps47
 go_wp2_with fail
 exact bodyPost_ret (v := .tuple #[.int .i64 0, .int .i64 2]) (by simp [results, Tryz.results47, go_sem]) rfl ⟨rfl, rfl⟩
theorem op_9yes (a b : Int) (w : World) (h : a < b) : Calls Tryz.prog 47 #[.int .i64 9, .int .i64 a, .int .i64 b] w fun r w' => r = .returned (.tuple #[.int .i64 1, .int .i64 0]) ∧ w' = w := by
 have g : a < b := h
 go_enter Tryz.func47, Tryz.ntmps47
 go_wp2_with fail
 exact bodyPost_ret (v := .tuple #[.int .i64 1, .int .i64 0]) (by simp [results, Tryz.results47, go_sem]) rfl ⟨rfl, rfl⟩
theorem op_9no (a b : Int) (w : World) (h : ¬ a < b) : Calls Tryz.prog 47 #[.int .i64 9, .int .i64 a, .int .i64 b] w fun r w' => r = .returned (.tuple #[.int .i64 0, .int .i64 0]) ∧ w' = w := by
 have g : ¬ a < b := h
 go_enter Tryz.func47, Tryz.ntmps47
 go_wp2_with fail
 exact bodyPost_ret (v := .tuple #[.int .i64 0, .int .i64 0]) (by simp [results, Tryz.results47, go_sem]) rfl ⟨rfl, rfl⟩
theorem op_10yes (a b : Int) (w : World) (h : a = b) : Calls Tryz.prog 47 #[.int .i64 10, .int .i64 a, .int .i64 b] w fun r w' => r = .returned (.tuple #[.int .i64 1, .int .i64 0]) ∧ w' = w := by
 have g : (a == b) = true := by simpa using h
 clear h
 go_enter Tryz.func47, Tryz.ntmps47
 go_wp2_with fail
 exact bodyPost_ret (v := .tuple #[.int .i64 1, .int .i64 0]) (by simp [results, Tryz.results47, go_sem]) rfl ⟨rfl, rfl⟩
theorem op_10no (a b : Int) (w : World) (h : ¬ a = b) : Calls Tryz.prog 47 #[.int .i64 10, .int .i64 a, .int .i64 b] w fun r w' => r = .returned (.tuple #[.int .i64 0, .int .i64 0]) ∧ w' = w := by
 have g : (a == b) = false := by simpa using h
 clear h
 go_enter Tryz.func47, Tryz.ntmps47
 go_wp2_with fail
 exact bodyPost_ret (v := .tuple #[.int .i64 0, .int .i64 0]) (by simp [results, Tryz.results47, go_sem]) rfl ⟨rfl, rfl⟩
theorem op_any (k a b : Int) (w : World) (hk : 4 ≤ k ∧ k ≤ 10) : Calls Tryz.prog 47 #[.int .i64 k, .int .i64 a, .int .i64 b] w fun r w' => r = .returned (.tuple #[.int .i64 (Pg.op k a b).1, .int .i64 (Pg.op k a b).2]) ∧ w' = w := by
 have h : k = 4 ∨ k = 5 ∨ k = 6 ∨ k = 7 ∨ k = 8 ∨ k = 9 ∨ k = 10 := by omega
 rcases h with rfl | rfl | rfl | rfl | rfl | rfl | rfl
 · exact op_4 a b w
 · exact op_5 a b w
 · exact op_6 a b w
 · by_cases hb : b = 0
   · subst hb; exact op_zero7 a w
   · rw [show Pg.op 7 a b = (Pg.w32 (wrap64 (a.tdiv b)), 0) by unfold Pg.op; rw [if_neg (fun h => hb h.2)]; rfl]
     exact op_7 a b w hb
 · by_cases hb : b = 0
   · subst hb; exact op_zero8 a w
   · rw [show Pg.op 8 a b = (Pg.w32 (a.tmod b), 0) by unfold Pg.op; rw [if_neg (fun h => hb h.2)]; rfl]
     exact op_8 a b w hb
 · by_cases h : a < b
   · rw [show Pg.op 9 a b = (1, 0) by unfold Pg.op; rw [if_neg (by omega)]; simp [h, Pg.w32_one]]
     exact op_9yes a b w h
   · rw [show Pg.op 9 a b = (0, 0) by unfold Pg.op; rw [if_neg (by omega)]; simp [h, Pg.w32_zero]]
     exact op_9no a b w h
 · by_cases h : a = b
   · rw [show Pg.op 10 a b = (1, 0) by unfold Pg.op; rw [if_neg (by omega)]; simp [h, Pg.w32_one]]
     exact op_10yes a b w h
   · rw [show Pg.op 10 a b = (0, 0) by unfold Pg.op; rw [if_neg (by omega)]; simp [h, Pg.w32_zero]]
     exact op_10no a b w h
end Go.Proofs.YtpfogjplnodacaaGreat
namespace Go.Proofs.YtpfogjplnodacaaGreat
open Go.RowKit
set_option linter.unusedVariables false
theorem Pg.var_lt {vs : List (List Int)} {n : Int} (h : 0 ≤ n ∧ n < (vs.length : Int)) : ∃ (j : Nat) (l : List Int), n = j ∧ vs[j]? = some l ∧ Pg.var? vs n = some l := by
 obtain ⟨j, rfl⟩ : ∃ j : Nat, n = j := ⟨n.toNat, by omega⟩
 have hj : j < vs.length := by omega
 refine ⟨j, vs[j], rfl, List.getElem?_eq_getElem hj, ?_⟩
 unfold Pg.var?
 rw [if_pos (by omega), Int.toNat_natCast, List.getElem?_eq_getElem hj]
theorem Pg.var_none {vs : List (List Int)} {n : Int} (h : ¬ (0 ≤ n ∧ n < (vs.length : Int))) : Pg.var? vs n = none := by
 unfold Pg.var?
 split
 · exact List.getElem?_eq_none (by omega)
 · rfl
def Pg.kindV (vs : List (List Int)) (n : Int) : Nat := match Pg.var? vs n with
 | none => 2
 | some l => if l.length = 1 then 0 else 1
theorem Pg.kindV_none {vs : List (List Int)} {n : Int} (h : Pg.var? vs n = none) : Pg.kindV vs n = 2 := by unfold Pg.kindV; rw [h]
theorem Pg.kindV_some {vs : List (List Int)} {n : Int} {l : List Int} (h : Pg.var? vs n = some l) : Pg.kindV vs n = if l.length = 1 then 0 else 1 := by unfold Pg.kindV; rw [h]
theorem isBeyond_any (n : Int) (w : World) : Calls Tryz.prog 30 #[.int .i64 n] w fun r w' => r = .returned (.bool (Pg.beyond n)) ∧ w' = w := by
 obtain ⟨D, hD⟩ : ∃ D, D = Pg.beyond n := ⟨_, rfl⟩
 rw [← hD]
 have HD := hide (show D = decide (n < -2147483648 ∨ n > 2147483647) from hD)
 clear hD
 go_enter Tryz.func30, Tryz.ntmps30
 by_cases h0 : n < -2147483648
 · have HE := hide (show D = true by rw [unhide HD]; exact decide_eq_true (Or.inl h0))
   go_wp2_with fail
   go_ret
   exact ⟨ret_bool (unhide HE).symm, rfl⟩
 · have HE := hide (show D = decide (n > 2147483647) by rw [unhide HD]; exact decide_eq_decide.2 ⟨fun h => h.resolve_left h0, Or.inr⟩)
   go_wp2_with fail
   go_ret
   exact ⟨ret_bool (unhide HE).symm, rfl⟩
def Pg.cont (a : List Int) : Except Int (List Int) → Except Int (List Int)
 | .error h => .error h
 | .ok b => .ok (a ++ b)
def Pg.evs {α : Type} (f : α → Int × Int) : List α → Except Int (List Int)
 | [] => .ok []
 | y :: r => if (f y).2 = 0 then Pg.cont [(f y).1] (Pg.evs f r) else .error (f y).2
def Pg.fin (vs : List (List Int)) (k n : Int) (ls : List Int) : Int × Int :=
 if k = 1 then (n, 0)
 else if k = 2 then ((((Pg.var? vs n).getD [])[0]?).getD 0, 0)
 else if k = 3 then (match Pg.at? ((Pg.var? vs n).getD []) ((ls[0]?).getD 0) with | none => (0, 3) | some v => (v, 0))
 else Pg.op k ((ls[0]?).getD 0) ((ls[1]?).getD 0)
def Pg.val (vs : List (List Int)) : (n : Nat) → Pg.XT n → Int × Int
 | 0, _ => (0, 0)
 | n + 1, x => match Pg.evs (Pg.val vs n) x.2 with
  | .error h => (0, h)
  | .ok ls => Pg.fin vs x.1.1 x.1.2 ls
end Go.Proofs.YtpfogjplnodacaaGreat
namespace Go.Proofs.YtpfogjplnodacaaGreat
open Go.RowKit
set_option linter.unusedVariables false
def Pg.okV (vs : List (List Int)) : (n : Nat) → Pg.XT n → Prop
 | 0, _ => False
 | n + 1, x => (1 ≤ x.1.1 ∧ x.1.1 ≤ 10) ∧ x.2.length = Pg.argsN x.1.1 ∧ (x.1.1 = 2 → ∃ l, Pg.var? vs x.1.2 = some l ∧ l ≠ []) ∧ (x.1.1 = 3 → ∃ l, Pg.var? vs x.1.2 = some l) ∧ ∀ y ∈ x.2, Pg.okV vs n y
theorem Pg.cont_cont (a b : List Int) (e : Except Int (List Int)) : Pg.cont a (Pg.cont b e) = Pg.cont (a ++ b) e := by
 cases e with
 | error h => rfl
 | ok c => show Except.ok _ = Except.ok _; rw [List.append_assoc]
theorem Pg.evs_yes {α : Type} (f : α → Int × Int) (l : List α) (i : Nat) (y : α) (hy : l[i]? = some y) (h : (f y).2 = 0) : Pg.evs f (l.drop i) = Pg.cont [(f y).1] (Pg.evs f (l.drop (i + 1))) := by
 obtain ⟨hk, hx⟩ := List.getElem?_eq_some_iff.1 hy
 rw [List.drop_eq_getElem_cons hk, hx]
 show (if (f y).2 = 0 then Pg.cont [(f y).1] (Pg.evs f (l.drop (i + 1))) else Except.error (f y).2) = _
 rw [if_pos h]
theorem Pg.evs_no {α : Type} (f : α → Int × Int) (l : List α) (i : Nat) (y : α) (hy : l[i]? = some y) (h : (f y).2 ≠ 0) : Pg.evs f (l.drop i) = .error (f y).2 := by
 obtain ⟨hk, hx⟩ := List.getElem?_eq_some_iff.1 hy
 rw [List.drop_eq_getElem_cons hk, hx]
 show (if (f y).2 = 0 then Pg.cont [(f y).1] (Pg.evs f (l.drop (i + 1))) else Except.error (f y).2) = _
 rw [if_neg h]
structure Pg.Rk (w W : World) (e : Pg.E) (i : Nat) (ls : List Int) : Prop where
 len : ls.length = i
 a0 : W.cell? ⟨w.heap.size + 1, 0, none⟩ = some (.int .i64 ((ls[0]?).getD 0))
 a1 : W.cell? ⟨w.heap.size + 1, 1, none⟩ = some (.int .i64 ((ls[1]?).getD 0))
 f0 : W.frozen? ⟨w.heap.size + 1, 0, none⟩ = false
 f1 : W.frozen? ⟨w.heap.size + 1, 1, none⟩ = false
 e0 : W.cell? ⟨w.heap.size, 0, none⟩ = some (.int .i64 e.k)
 e1 : W.cell? ⟨w.heap.size, 1, none⟩ = some (.int .i64 e.n)
 e2 : W.cell? ⟨w.heap.size, 2, none⟩ = some (.slice e.args.ad e.args.len e.args.cap)
 bel : Below w.heap.size w W
theorem Pg.Rk.later {w W W' : World} {e : Pg.E} {i : Nat} {ls : List Int} (h : Pg.Rk w W e i ls) (hb : Below W.heap.size W W') : Pg.Rk w W' e i ls := by
 have l1 := World.block_lt_of_cell? W _ h.a0
 have l2 := World.block_lt_of_cell? W _ h.e0
 exact ⟨h.len, (hb.cell (p := ⟨w.heap.size + 1, 0, none⟩) l1).trans h.a0, (hb.cell (p := ⟨w.heap.size + 1, 1, none⟩) l1).trans h.a1, (hb.frozen (p := ⟨w.heap.size + 1, 0, none⟩) l1).trans h.f0, (hb.frozen (p := ⟨w.heap.size + 1, 1, none⟩) l1).trans h.f1, (hb.cell (p := ⟨w.heap.size, 0, none⟩) l2).trans h.e0, (hb.cell (p := ⟨w.heap.size, 1, none⟩) l2).trans h.e1, (hb.cell (p := ⟨w.heap.size, 2, none⟩) l2).trans h.e2, h.bel.trans (hb.mono h.bel.size)⟩
theorem Pg.Rk.put {w W : World} {e : Pg.E} {i : Nat} {ls : List Int} (h : Pg.Rk w W e i ls) (hi : i < 2) (v : Int) : Pg.Rk w (W.setCell ⟨w.heap.size + 1, i, none⟩ (.int .i64 v)) e (i + 1) (ls ++ [v]) := by
 have n : ∀ j : Nat, (⟨w.heap.size + 1, i, none⟩ : Addr) ≠ ⟨w.heap.size, j, none⟩ := fun j hh => by have := congrArg Addr.block hh; simp at this
 have hl := h.len
 have o : ∀ j : Nat, j ≠ i → (⟨w.heap.size + 1, i, none⟩ : Addr) ≠ ⟨w.heap.size + 1, j, none⟩ := fun j hj hh => by have := congrArg Addr.off hh; simp at this; omega
 refine ⟨by simp [hl], ?_, ?_, by rw [World.frozen?_setCell]; exact h.f0, by rw [World.frozen?_setCell]; exact h.f1, by rw [World.cell?_setCell_other _ _ _ _ (n _)]; exact h.e0, by rw [World.cell?_setCell_other _ _ _ _ (n _)]; exact h.e1, by rw [World.cell?_setCell_other _ _ _ _ (n _)]; exact h.e2, h.bel.setCell (by show w.heap.size ≤ w.heap.size + 1; omega) _⟩
 · by_cases h0 : i = 0
   · subst h0
     rw [World.cell?_setCell_same _ _ _ h.a0, List.getElem?_append_right (by omega), hl]
     rfl
   · rw [World.cell?_setCell_other _ _ _ _ (o 0 (fun e => h0 e.symm)), List.getElem?_append_left (by omega)]
     exact h.a0
 · by_cases h1 : i = 1
   · subst h1
     rw [World.cell?_setCell_same _ _ _ h.a1, List.getElem?_append_right (by omega), hl]
     rfl
   · rw [World.cell?_setCell_other _ _ _ _ (o 1 (fun e => h1 e.symm))]
     have : i = 0 := by omega
     subst this
     rw [h.a1, List.getElem?_eq_none (by omega), List.getElem?_eq_none (by simp [hl])]
theorem Pg.fin_num {vs : List (List Int)} {k n : Int} {ls : List Int} (h : k = 1) : Pg.fin vs k n ls = (n, 0) := by unfold Pg.fin; rw [if_pos h]
theorem Pg.fin_var {vs : List (List Int)} {k n a : Int} {r ls : List Int} (h : k = 2) (hv : Pg.var? vs n = some (a :: r)) : Pg.fin vs k n ls = (a, 0) := by unfold Pg.fin; rw [if_neg (by omega), if_pos h, hv]; rfl
theorem Pg.fin_cell {vs : List (List Int)} {k n v L : Int} {l ls : List Int} (h : k = 3) (hv : Pg.var? vs n = some l) (hL : (ls[0]?).getD 0 = L) (ha : Pg.at? l L = some v) : Pg.fin vs k n ls = (v, 0) := by
 unfold Pg.fin
 rw [if_neg (by omega), if_neg (by omega), if_pos h, hv, hL]
 show (match Pg.at? l L with | none => ((0 : Int), (3 : Int)) | some v => (v, 0)) = _
 rw [ha]
theorem Pg.fin_none {vs : List (List Int)} {k n L : Int} {l ls : List Int} (h : k = 3) (hv : Pg.var? vs n = some l) (hL : (ls[0]?).getD 0 = L) (ha : Pg.at? l L = none) : Pg.fin vs k n ls = (0, 3) := by
 unfold Pg.fin
 rw [if_neg (by omega), if_neg (by omega), if_pos h, hv, hL]
 show (match Pg.at? l L with | none => ((0 : Int), (3 : Int)) | some v => (v, 0)) = _
 rw [ha]
theorem Pg.fin_op {vs : List (List Int)} {k n L0 L1 : Int} {ls : List Int} (h1 : k ≠ 1) (h2 : k ≠ 2) (h3 : k ≠ 3) (hL : (ls[0]?).getD 0 = L0) (hM : (ls[1]?).getD 0 = L1) : Pg.fin vs k n ls = Pg.op k L0 L1 := by
 unfold Pg.fin
 rw [if_neg h1, if_neg h2, if_neg h3, hL, hM]
theorem Pg.at_out {l : List Int} {n : Int} (h : ¬ (0 ≤ n ∧ n < (l.length : Int))) : Pg.at? l n = none := by
 unfold Pg.at?
 split
 · exact List.getElem?_eq_none (by omega)
 · rfl
theorem Pg.var_some {vs : List (List Int)} {n : Int} {l : List Int} (h : Pg.var? vs n = some l) : ∃ j : Nat, n = j ∧ vs[j]? = some l := by
 unfold Pg.var? at h
 split at h
 · exact ⟨n.toNat, by omega, h⟩
 · cases h
theorem reckon_any (sa : Option Addr) (sl sc : Nat) (vs : List (List Int)) : ∀ (n : Nat) (e : Pg.E) (x : Pg.XT n) (w : World), Pg.RX w n e x → Pg.RV w ⟨sa, sl, sc⟩ vs → Pg.okV vs n x →
  Calls Tryz.prog 53 #[e.val, .slice sa sl sc] w fun r w' => r = .returned (.tuple #[.int .i64 (Pg.val vs n x).1, .int .i64 (Pg.val vs n x).2]) ∧ Below w.heap.size w w' := by
 intro n
 induction n with
 | zero => intro e x w h; exact absurd h id
 | succ n ih =>
  intro e x w hre hrv hok
  obtain ⟨⟨hk, hn⟩, hs⟩ := hre
  obtain ⟨hK, hA, hV2, hV3, hsub⟩ := hok
  have hlen := hs.len
  have hsl : sl = vs.length := hrv.len
  have hsf : sl ≤ 35184372088832 := by rw [hsl]; exact hrv.few
  have HSL := hide hsl
  clear hsl
  have hAle : Pg.argsN x.1.1 ≤ 2 := by unfold Pg.argsN; split <;> (try split) <;> omega
  have hl2 : e.args.len ≤ 2 := by omega
  obtain ⟨V, hV⟩ : ∃ V, V = Pg.val vs (n + 1) x := ⟨_, rfl⟩
  rw [← hV]
  have HV := hide (show V = (match Pg.evs (Pg.val vs n) x.2 with | .error h => (0, h) | .ok ls => Pg.fin vs e.k e.n ls) by rw [hV, hk, hn]; rfl)
  have HS := hide hs
  have HLN := hide hlen
  have IH := hide ih
  have HRV := hide hrv
  have HSUB := hide hsub
  rw [← hk] at hK hA hV2 hV3
  rw [← hn] at hV2 hV3
  have HK := hide hK
  have HA := hide (hlen.trans hA)
  have HV2 := hide hV2
  have HV3 := hide hV3
  clear hs hlen ih hrv hsub hV hk hn hK hA hV2 hV3 hAle
  have hb0 := ((Below.refl w.heap.size w).alloc (Nat.le_refl _) (Obj.cells #[.int .i64 e.k, .int .i64 e.n, .slice e.args.ad e.args.len e.args.cap] 69)).alloc (by simp) (Obj.cells #[.int .i64 0, .int .i64 0] 140)
  have HB0 := hide hb0
  clear hb0
  unfold Pg.E.val
  go_enter Tryz.func53, Tryz.ntmps53
  go_wp2_with fail
  go_loopw [14] (fun iv wr => ∃ (i : Nat) (ls : List Int), i ≤ e.args.len ∧ iv = .int .i64 i ∧ Hid (Pg.evs (Pg.val vs n) x.2 = Pg.cont ls (Pg.evs (Pg.val vs n) (x.2.drop i))) ∧ Pg.Rk w wr e i ls) (fun iv _ => e.args.len - (intOf iv).toNat)
  case atStart => exact ⟨0, [], Nat.zero_le _, rfl, by show _ = _; rw [List.drop_zero]; cases Pg.evs (Pg.val vs n) x.2 <;> rfl, ⟨rfl, by go_simp, by go_simp, by go_simp, by go_simp, by go_simp, by go_simp, by go_simp, unhide HB0⟩⟩
  case round =>
   obtain ⟨i, ls, hi, rfl, hrel, hrk⟩ := hrel
   have HRL := hide (unhide hrel)
   have HRK := hide hrk
   have hz := hrk.bel.size
   clear hrel hrk
   by_cases hlt : i < e.args.len
   · have hlt2 : i < x.2.length := by have := unhide HLN; omega
     have hy := List.getElem?_eq_getElem hlt2
     obtain ⟨b, o, cc, had, hb, hlies, hrd⟩ := (unhide HS).at_ i _ hy
     have hoky := (unhide HSUB) _ (List.mem_of_getElem? hy)
     have HY := hide (fun h => Pg.evs_yes (Pg.val vs n) x.2 i _ hy h)
     have HNO := hide (fun h => Pg.evs_no (Pg.val vs n) x.2 i _ hy h)
     generalize x.2[i] = y at *
     obtain ⟨p0, p1, p2⟩ := hlies.later (unhide HRK).bel (Nat.le_refl _) hb
     have hal := (Below.refl wr.heap.size wr).alloc (Nat.le_refl _) (Obj.cells #[.int .i64 cc.k, .int .i64 cc.n, .slice cc.args.ad cc.args.len cc.args.cap] 69)
     have hrka := (unhide HRK).later hal
     have HIC := hide ((unhide IH) cc y _ (hrd.later hrka.bel (Nat.le_refl _)) ((unhide HRV).later hrka.bel (Nat.le_refl _)) hoky)
     have HRA := hide hrka
     obtain ⟨v, hw, hvv⟩ : ∃ v hw, Pg.val vs n y = (v, hw) := ⟨_, _, rfl⟩
     rw [hvv] at HIC HY HNO
     clear hlies hrd hy hal hrka hoky hvv
     have hi0 : (0 : Int) ≤ (i : Int) := by omega
     have hi1 : (i : Int) < (e.args.len : Int) := by omega
     rw [had]
     unfold Pg.E.val at HIC
     go_wp2_with fail
     refine (unhide HIC).mono ?_
     rintro r w1 ⟨rfl, hb1⟩
     have hrk1 := (unhide HRA).later hb1
     have HR1 := hide hrk1
     clear hb1 p0 p1 p2
     by_cases hw0 : hw = 0
     · have g : (hw != 0) = false := by simp [hw0]
       have HN := hide (show Pg.evs (Pg.val vs n) x.2 = Pg.cont (ls ++ [v]) (Pg.evs (Pg.val vs n) (x.2.drop (i + 1))) by rw [unhide HRL, (unhide HY) hw0, Pg.cont_cont])
       have a0 := hrk1.a0
       have a1 := hrk1.a1
       have f0 := hrk1.f0
       have f1 := hrk1.f1
       have h01 : i = 0 ∨ i = 1 := by omega
       clear hw0 hrk1
       rcases h01 with rfl | rfl
       · go_wp2_with fail
         exact ⟨⟨1, ls ++ [v], by omega, by go_num, unhide HN, (unhide HR1).put (by omega) v⟩, by simp [intOf]; omega⟩
       · go_wp2_with fail
         exact ⟨⟨2, ls ++ [v], by omega, by go_num, unhide HN, (unhide HR1).put (by omega) v⟩, by simp [intOf]; omega⟩
     · have g : (hw != 0) = true := by simpa using hw0
       have HN := hide (show V = (0, hw) by rw [unhide HV, unhide HRL, (unhide HNO) hw0]; rfl)
       clear hw0 hrk1
       go_wp2_with fail
       exact bodyPost_ret (v := .tuple #[.int .i64 0, .int .i64 hw]) (by simp [results, Tryz.results53, go_sem]) rfl ⟨by rw [unhide HN], (unhide HR1).bel⟩
   · have hil : i = e.args.len := by omega
     have HF := hide (show V = Pg.fin vs e.k e.n ls by
      rw [unhide HV, unhide HRL, List.drop_of_length_le (by have := unhide HLN; omega)]
      show Pg.fin vs e.k e.n (ls ++ []) = _
      rw [List.append_nil])
     have e0 := (unhide HRK).e0
     have e1 := (unhide HRK).e1
     have a0 := (unhide HRK).a0
     have a1 := (unhide HRK).a1
     obtain ⟨L0, hL0⟩ : ∃ L0, (ls[0]?).getD 0 = L0 := ⟨_, rfl⟩
     obtain ⟨L1, hL1⟩ : ∃ L1, (ls[1]?).getD 0 = L1 := ⟨_, rfl⟩
     rw [hL0] at a0
     rw [hL1] at a1
     have HL0 := hide hL0
     have HL1 := hide hL1
     clear hL0 hL1
     have HFN := hide (unhide HF)
     have HBR := hide (unhide HRK).bel
     have HRVR := hide ((unhide HRV).later (unhide HRK).bel (Nat.le_refl _))
     clear hil HF HRK HV HS HLN IH HRV HSUB HA HB0 HRL
     by_cases k1 : e.k = 1
     · have b1 : (e.k == 1) = true := by simp [k1]
       have HN := hide (show V = (e.n, 0) by rw [unhide HFN, Pg.fin_num k1])
       clear k1
       go_wp2_with fail
       exact bodyPost_ret (v := .tuple #[.int .i64 (e.n), .int .i64 (0)]) (by simp [results, Tryz.results53, go_sem]) rfl ⟨by rw [unhide HN], unhide HBR⟩
     · have b1 : (e.k == 1) = false := by simpa using k1
       by_cases k2 : e.k = 2
       · have b2 : (e.k == 2) = true := by simp [k2]
         obtain ⟨l, hv, hne⟩ := (unhide HV2) k2
         obtain ⟨j, hj, hjl⟩ := Pg.var_some hv
         obtain ⟨b, o, t, had, hb, hc, hrn⟩ := (unhide HRVR).at_ j l hjl
         cases l with
         | nil => exact absurd rfl hne
         | cons a r =>
          obtain ⟨b2', o2, had2, hb2, hc2⟩ := hrn.at_ 0 a rfl
          have HN := hide (show V = (a, 0) by rw [unhide HFN, Pg.fin_var k2 hv])
          have had' : sa = some ⟨b, o, none⟩ := had
          subst had'
          have hj3 : (j : Int) < (sl : Int) := by have := (List.getElem?_eq_some_iff.1 hjl).1; have := unhide HSL; omega
          have hj2 : (0 : Int) ≤ (j : Int) := by omega
          have htl : (0 : Int) < (t.len : Int) := by rw [hrn.len]; simp
          rw [had2] at hc
          rw [hj] at e1
          rw [Nat.add_zero] at hc2
          clear k1 k2 hv hj hjl hrn had hne
          go_wp2_with fail
          exact bodyPost_ret (v := .tuple #[.int .i64 (a), .int .i64 (0)]) (by simp [results, Tryz.results53, go_sem]) rfl ⟨by rw [unhide HN], unhide HBR⟩
       · have b2 : (e.k == 2) = false := by simpa using k2
         by_cases k3 : e.k = 3
         · have b3 : (e.k == 3) = true := by simp [k3]
           obtain ⟨l, hv⟩ := (unhide HV3) k3
           obtain ⟨j, hj, hjl⟩ := Pg.var_some hv
           obtain ⟨b, o, t, had, hb, hc, hrn⟩ := (unhide HRVR).at_ j l hjl
           have had' : sa = some ⟨b, o, none⟩ := had
           subst had'
           have hj3 : (j : Int) < (sl : Int) := by have := (List.getElem?_eq_some_iff.1 hjl).1; have := unhide HSL; omega
           have hj2 : (0 : Int) ≤ (j : Int) := by omega
           have htl := hrn.len
           have htf := hrn.few
           rw [← htl] at htf
           rw [hj] at e1
           by_cases hin : 0 ≤ L0 ∧ L0 < (t.len : Int)
           · obtain ⟨q, rfl⟩ : ∃ q : Nat, L0 = q := ⟨L0.toNat, by omega⟩
             obtain ⟨v, hvq⟩ : ∃ v, l[q]? = some v := ⟨_, List.getElem?_eq_getElem (by omega)⟩
             obtain ⟨b2', o2, had2, hb2, hc2⟩ := hrn.at_ q v hvq
             have HN := hide (show V = (v, 0) by rw [unhide HFN, Pg.fin_cell k3 hv (unhide HL0) (by unfold Pg.at?; rw [if_pos (by omega), Int.toNat_natCast]; exact hvq)])
             have HIS := hide (fun W => show Calls Tryz.prog 96 #[.int .i64 (q : Int), .slice (some ⟨b2', o2, none⟩) t.len t.cap] W fun r w' => r = .returned (.bool true) ∧ w' = W by
              have := isCell_any (q : Int) (some ⟨b2', o2, none⟩) t.len t.cap W htf
              rw [decide_eq_true hin] at this
              exact this)
             have hq1 : (0 : Int) ≤ (q : Int) := by omega
             have hq2 : (q : Int) < (t.len : Int) := by omega
             rw [had2] at hc
             clear k1 k2 k3 hv hj hjl hrn had hin hvq had2 htl
             go_wp2_with fail
             go_quiet ((go_at_call 96; exact Calls.quiet_of_same ((unhide HIS) _)))
             go_wp2_with fail
             go_quiet (fail)
             go_wp2_with fail
             exact bodyPost_ret (v := .tuple #[.int .i64 (v), .int .i64 (0)]) (by simp [results, Tryz.results53, go_sem]) rfl ⟨by rw [unhide HN], below_drewN (below_drewN (unhide HBR) _) _⟩
           · have HN := hide (show V = (0, 3) by rw [unhide HFN, Pg.fin_none k3 hv (unhide HL0) (Pg.at_out (by omega))])
             have HIS := hide (fun W => show Calls Tryz.prog 96 #[.int .i64 L0, .slice t.ad t.len t.cap] W fun r w' => r = .returned (.bool false) ∧ w' = W by
              have := isCell_any L0 t.ad t.len t.cap W htf
              rw [decide_eq_false hin] at this
              exact this)
             clear k1 k2 k3 hv hj hjl hrn had hin htl
             go_wp2_with fail
             go_quiet ((go_at_call 96; exact Calls.quiet_of_same ((unhide HIS) _)))
             go_wp2_with fail
             exact bodyPost_ret (v := .tuple #[.int .i64 0, .int .i64 3]) (by simp [results, Tryz.results53, go_sem]) rfl ⟨by rw [unhide HN], below_drewN (unhide HBR) _⟩
         · have b3 : (e.k == 3) = false := by simpa using k3
           have HN := hide (show V = Pg.op e.k L0 L1 by rw [unhide HFN, Pg.fin_op k1 k2 k3 (unhide HL0) (unhide HL1)])
           have hk4 : 4 ≤ e.k ∧ e.k ≤ 10 := by have := unhide HK; omega
           have HJ := hide (fun W => join_any e.k L0 L1 W hk4)
           clear k1 k2 k3 hk4
           generalize Pg.op e.k L0 L1 = OP at *
           go_wp2_with fail
           refine ((unhide HJ) _).mono ?_
           rintro r w3 ⟨rfl, hw3⟩
           subst hw3
           go_wp2_with fail
           exact bodyPost_ret (v := .tuple #[.int .i64 OP.1, .int .i64 OP.2]) (by simp [results, Tryz.results53, go_sem]) rfl ⟨by rw [unhide HN], unhide HBR⟩
end Go.Proofs.YtpfogjplnodacaaGreat
namespace Go.Proofs.YtpfogjplnodacaaGreat
open Go.RowKit
set_option linter.unusedVariables false
theorem info_of {P : Program} {t : TypeId} {z : Option Value} {s b : Nat} (h : (P.info? t).map (fun i => (i.zero, i.size, i.bytes)) = some (z, s, b)) : ∃ i, P.info? t = some i ∧ i.zero = z ∧ i.size = s ∧ i.bytes = b := by
 cases hi : P.info? t with
 | none => rw [hi] at h; cases h
 | some i => rw [hi] at h; simp at h; exact ⟨i, rfl, h.1, h.2.1, h.2.2⟩
theorem Pg.ow_below {W W' : World} {B : Nat} {e : TypeId} {size : Nat} {v : Value} {n : Nat} {xs : List Value} (h : W.ownsRow B e size v n xs) (hb : Below W.heap.size W W') : W'.ownsRow B e size v n xs := by
 obtain ⟨h1, h2⟩ := h
 refine ⟨h1, ?_⟩
 rcases h2 with h2 | ⟨g, cap, cur, hv, hg, hh, r⟩
 · exact .inl h2
 · exact .inr ⟨g, cap, cur, hv, hg, (hb.block g (Array.getElem?_eq_some_iff.1 hh).1).trans hh, r⟩
theorem Pg.ow_base {W : World} {B B' : Nat} {e : TypeId} {size : Nat} {v : Value} {n : Nat} {xs : List Value} (h : W.ownsRow B e size v n xs) (hB : B' ≤ B) : W.ownsRow B' e size v n xs := by
 obtain ⟨h1, h2⟩ := h
 refine ⟨h1, ?_⟩
 rcases h2 with h2 | ⟨g, cap, cur, hv, hg, r⟩
 · exact .inl h2
 · exact .inr ⟨g, cap, cur, hv, by omega, r⟩
def Pg.E.cells (e : Pg.E) : List Value := [.int .i64 e.k, .int .i64 e.n, .slice e.args.ad e.args.len e.args.cap]
def Pg.exC (l : List Pg.E) : List Value := l.flatMap Pg.E.cells
theorem Pg.exC_at : ∀ (l : List Pg.E) (i : Nat) (x : Pg.E) (j : Nat) (v : Value), l[i]? = some x → x.cells[j]? = some v → (Pg.exC l)[i * 3 + j]? = some v
 | [], i, x, j, v, h, _ => by simp at h
 | e :: r, 0, x, j, v, h, hv => by
  simp at h
  subst h
  show (e.cells ++ Pg.exC r)[0 * 3 + j]? = _
  have hj := (List.getElem?_eq_some_iff.1 hv).1
  rw [Nat.zero_mul, Nat.zero_add, List.getElem?_append_left hj]
  exact hv
 | e :: r, i + 1, x, j, v, h, hv => by
  show (e.cells ++ Pg.exC r)[(i + 1) * 3 + j]? = _
  have e3 : e.cells.length = 3 := rfl
  rw [List.getElem?_append_right (by rw [e3]; omega), e3, show (i + 1) * 3 + j - 3 = i * 3 + j by omega]
  exact Pg.exC_at r i x j v (by simpa using h) hv
end Go.Proofs.YtpfogjplnodacaaGreat
namespace Go.Proofs.YtpfogjplnodacaaGreat
open Go.RowKit
set_option linter.unusedVariables false
structure Xr.S where
 inp : List Int
 fuel : Nat
 made : Nat
 evs : List Ev
 ended : Bool
structure Xr.F where
 num : Nat
 deep : Nat
 at_ : Int
 vs : List (List Int)
def Xr.tell (s : Xr.S) (e : Ev) : Xr.S := if s.ended then s else { s with evs := s.evs ++ [e] }
def Xr.fin (s : Xr.S) (f : Xr.F) (a how : Int) : Xr.S := { Xr.tell s ⟨7, f.num, a, 0, 0, how⟩ with ended := true }
def Xr.stepS (s : Xr.S) (f : Xr.F) (a : Int) : Xr.S := if s.fuel = 0 then Xr.fin s f a 1 else Xr.tell { s with fuel := s.fuel - 1 } ⟨1, f.num, a, 0, 0, 0⟩
def Xr.stepF (s : Xr.S) (f : Xr.F) (a : Int) : Xr.F := if s.fuel = 0 then f else { f with at_ := a }
def Xr.valV {n : Nat} (s : Xr.S) (f : Xr.F) (x : Pg.XT n) : Int := if s.ended then 0 else (Pg.val f.vs n x).1
def Xr.valS {n : Nat} (s : Xr.S) (f : Xr.F) (x : Pg.XT n) : Xr.S := if s.ended then s else if (Pg.val f.vs n x).2 = 0 then s else Xr.fin s f f.at_ (Pg.val f.vs n x).2
def Xr.upd (vs : List (List Int)) (v i : Nat) (z : Int) : List (List Int) := vs.set v ((vs[v]?.getD []).set i z)
def Xr.wrS (s : Xr.S) (f : Xr.F) (a v i z : Int) : Xr.S := Xr.tell s ⟨2, f.num, a, v, i, z⟩
def Xr.wrF (f : Xr.F) (v i z : Int) : Xr.F := { f with vs := Xr.upd f.vs v.toNat i.toNat z }
def Xr.newF (num deep : Nat) (sz : List Int) : Xr.F := ⟨num, deep, -1, sz.map fun n => List.replicate (max n 1).toNat 0⟩
theorem Tryz.infoEv : (Tryz.prog.info? 63).map (fun i => (i.zero, i.size, i.bytes)) = some (some (.agg #[.int .i64 0, .int .i64 0, .int .i64 0, .int .i64 0, .int .i64 0, .int .i64 0]), 6, 48) := by kernel_rfl
def Xr.evC (l : List Ev) : List Value := l.flatMap Ev.cells
theorem Xr.evC_at : ∀ (l : List Ev) (i : Nat) (x : Ev) (j : Nat) (v : Value), l[i]? = some x → x.cells[j]? = some v → (Xr.evC l)[i * 6 + j]? = some v
 | [], i, x, j, v, h, _ => by simp at h
 | e :: r, 0, x, j, v, h, hv => by
  simp at h
  subst h
  show (e.cells ++ Xr.evC r)[0 * 6 + j]? = _
  have hj := (List.getElem?_eq_some_iff.1 hv).1
  rw [Nat.zero_mul, Nat.zero_add, List.getElem?_append_left hj]
  exact hv
 | e :: r, i + 1, x, j, v, h, hv => by
  show (e.cells ++ Xr.evC r)[(i + 1) * 6 + j]? = _
  have e6 : e.cells.length = 6 := rfl
  rw [List.getElem?_append_right (by rw [e6]; omega), e6, show (i + 1) * 6 + j - 6 = i * 6 + j by omega]
  exact Xr.evC_at r i x j v (by simpa using h) hv
theorem Xr.evC_snoc (l : List Ev) (e : Ev) : Xr.evC (l ++ [e]) = Xr.evC l ++ e.cells := by
 unfold Xr.evC
 simp
theorem Xr.ow_kept {W W' : World} {B : Nat} {e : TypeId} {size : Nat} {v : Value} {n : Nat} {xs : List Value} (h : W.ownsRow B e size v n xs) (hb : ∀ q, v.ownBlock = some q → W'.heap[q]? = W.heap[q]?) : W'.ownsRow B e size v n xs := by
 obtain ⟨h1, h2⟩ := h
 refine ⟨h1, ?_⟩
 rcases h2 with h2 | ⟨g, cap, cur, hv, hg, hh, r⟩
 · exact .inl h2
 · exact .inr ⟨g, cap, cur, hv, hg, (hb g (by rw [hv]; rfl)).trans hh, r⟩
theorem Xr.cell_kept {W W' : World} {q : Nat} (h : W'.heap[q]? = W.heap[q]?) (i : Nat) : W'.cell? ⟨q, i, none⟩ = W.cell? ⟨q, i, none⟩ := World.cell?_of_block (a := ⟨q, i, none⟩) h
theorem Xr.frz_kept {W W' : World} {q : Nat} (h : W'.heap[q]? = W.heap[q]?) (i : Nat) : W'.frozen? ⟨q, i, none⟩ = W.frozen? ⟨q, i, none⟩ := World.frozen?_of_block (a := ⟨q, i, none⟩) h
theorem Xr.set_other {W : World} {b q o : Nat} {v : Value} (h : q ≠ b) : (W.setCell ⟨b, o, none⟩ v).heap[q]? = W.heap[q]? := Below.heap_setCell _ _ _ _ h
structure Xr.M (w0 W : World) (br : Nat) (fs : Pg.Sl) (s : Xr.S) (ev : Value) : Prop where
 bel : Below w0.heap.size w0 W
 hbr : w0.heap.size ≤ br
 c0 : W.cell? ⟨br, 0, none⟩ = some (.slice fs.ad fs.len fs.cap)
 c1 : ∃ t : Pg.Sl, W.cell? ⟨br, 1, none⟩ = some (.slice t.ad t.len t.cap) ∧ Pg.RN w0 t s.inp
 c2 : W.cell? ⟨br, 2, none⟩ = some (.int .i64 (s.fuel : Nat))
 c3 : W.cell? ⟨br, 3, none⟩ = some (.int .i64 (s.made : Nat))
 c4 : W.cell? ⟨br, 4, none⟩ = some ev
 c5 : W.cell? ⟨br, 5, none⟩ = some (.bool s.ended)
 fz : ∀ i, W.frozen? ⟨br, i, none⟩ = false
 row : W.ownsRow w0.heap.size 63 6 ev s.evs.length (Xr.evC s.evs)
 apart : ∀ q, ev.ownBlock = some q → q ≠ br
theorem Xr.M.lt {w0 W : World} {br : Nat} {fs : Pg.Sl} {s : Xr.S} {ev : Value} (h : Xr.M w0 W br fs s ev) : br < W.heap.size := World.block_lt_of_cell? W _ h.c0
theorem Xr.M.form {w0 W : World} {br : Nat} {fs : Pg.Sl} {s : Xr.S} {ev : Value} (h : Xr.M w0 W br fs s ev) : ∃ a c, ev = .slice a s.evs.length c := by
 rcases h.row.2 with ⟨h1, h2⟩ | ⟨g, cap, cur, hv, _⟩
 · exact ⟨none, 0, by rw [h2]; exact h1⟩
 · exact ⟨_, _, hv⟩
theorem Xr.M.kept {w0 W W' : World} {br : Nat} {fs : Pg.Sl} {s : Xr.S} {ev : Value} (h : Xr.M w0 W br fs s ev) (hb : Below w0.heap.size w0 W') (h1 : W'.heap[br]? = W.heap[br]?) (h2 : ∀ q, ev.ownBlock = some q → W'.heap[q]? = W.heap[q]?) : Xr.M w0 W' br fs s ev := by
 obtain ⟨t, ht, hn⟩ := h.c1
 exact ⟨hb, h.hbr, (Xr.cell_kept h1 0).trans h.c0, ⟨t, (Xr.cell_kept h1 1).trans ht, hn⟩, (Xr.cell_kept h1 2).trans h.c2, (Xr.cell_kept h1 3).trans h.c3, (Xr.cell_kept h1 4).trans h.c4, (Xr.cell_kept h1 5).trans h.c5, fun i => (Xr.frz_kept h1 i).trans (h.fz i), Xr.ow_kept h.row h2, h.apart⟩
theorem Xr.M.ev_lt {w0 W : World} {br : Nat} {fs : Pg.Sl} {s : Xr.S} {ev : Value} (h : Xr.M w0 W br fs s ev) (q : Nat) (hq : ev.ownBlock = some q) : w0.heap.size ≤ q ∧ q < W.heap.size := h.row.lt q hq
theorem Xr.M.below {w0 W W' : World} {br : Nat} {fs : Pg.Sl} {s : Xr.S} {ev : Value} (h : Xr.M w0 W br fs s ev) (hb : Below W.heap.size W W') : Xr.M w0 W' br fs s ev :=
 h.kept (h.bel.trans (hb.mono h.bel.size)) (hb.block br h.lt) (fun q hq => hb.block q (h.ev_lt q hq).2)
def Xr.own (bf : Nat) (gv : Option Nat) (vb : List Nat) : List Nat := bf :: (gv.toList ++ vb)
structure Xr.Fm (w0 W : World) (bf : Nat) (gv : Option Nat) (vb : List Nat) (f : Xr.F) : Prop where
 hge : ∀ q ∈ Xr.own bf gv vb, w0.heap.size ≤ q ∧ q < W.heap.size
 nd : (Xr.own bf gv vb).Nodup
 c0 : W.cell? ⟨bf, 0, none⟩ = some (.int .i64 (f.num : Nat))
 c1 : W.cell? ⟨bf, 1, none⟩ = some (.int .i64 (f.deep : Nat))
 c2 : W.cell? ⟨bf, 2, none⟩ = some (.int .i64 f.at_)
 c3 : ∃ c, W.cell? ⟨bf, 3, none⟩ = some (.slice (gv.map fun g => ⟨g, 0, none⟩) f.vs.length c) ∧ f.vs.length ≤ c
 fz : ∀ i, W.frozen? ⟨bf, i, none⟩ = false
 len : vb.length = f.vs.length
 few : f.vs.length ≤ 1000
 at_ : ∀ i b l, vb[i]? = some b → f.vs[i]? = some l → ∃ g c, gv = some g ∧ W.cell? ⟨g, i, none⟩ = some (.slice (some ⟨b, 0, none⟩) l.length c) ∧ l.length ≤ c ∧ l.length ≤ 1000 ∧ (∀ j z, l[j]? = some z → W.cell? ⟨b, j, none⟩ = some (.int .i64 z)) ∧ ∀ j, W.frozen? ⟨b, j, none⟩ = false
theorem Xr.Fm.kept {w0 W W' : World} {bf : Nat} {gv : Option Nat} {vb : List Nat} {f : Xr.F} (h : Xr.Fm w0 W bf gv vb f) (hz : W.heap.size ≤ W'.heap.size) (hk : ∀ q ∈ Xr.own bf gv vb, W'.heap[q]? = W.heap[q]?) : Xr.Fm w0 W' bf gv vb f := by
 have kb : W'.heap[bf]? = W.heap[bf]? := hk bf (by unfold Xr.own; simp)
 obtain ⟨c, h3, h3'⟩ := h.c3
 refine ⟨fun q hq => ⟨(h.hge q hq).1, Nat.lt_of_lt_of_le (h.hge q hq).2 hz⟩, h.nd, (Xr.cell_kept kb 0).trans h.c0, (Xr.cell_kept kb 1).trans h.c1, (Xr.cell_kept kb 2).trans h.c2, ⟨c, (Xr.cell_kept kb 3).trans h3, h3'⟩, fun i => (Xr.frz_kept kb i).trans (h.fz i), h.len, h.few, fun i b l hb hl => ?_⟩
 obtain ⟨g, c', e1, e2, e3, e4, e5, e6⟩ := h.at_ i b l hb hl
 have kg : W'.heap[g]? = W.heap[g]? := hk g (by unfold Xr.own; rw [e1]; simp)
 have kv : W'.heap[b]? = W.heap[b]? := hk b (by unfold Xr.own; have := List.mem_of_getElem? hb; simp [this])
 exact ⟨g, c', e1, (Xr.cell_kept kg i).trans e2, e3, e4, fun j z hz => (Xr.cell_kept kv j).trans (e5 j z hz), fun j => (Xr.frz_kept kv j).trans (e6 j)⟩
theorem Xr.Fm.below {w0 W W' : World} {bf : Nat} {gv : Option Nat} {vb : List Nat} {f : Xr.F} (h : Xr.Fm w0 W bf gv vb f) (hb : Below W.heap.size W W') : Xr.Fm w0 W' bf gv vb f :=
 h.kept hb.size (fun q hq => hb.block q (h.hge q hq).2)
theorem Xr.Fm.ltf {w0 W : World} {bf : Nat} {gv : Option Nat} {vb : List Nat} {f : Xr.F} (h : Xr.Fm w0 W bf gv vb f) : bf < W.heap.size := (h.hge bf (by unfold Xr.own; simp)).2
theorem Xr.Fm.rv {w0 W : World} {bf : Nat} {gv : Option Nat} {vb : List Nat} {f : Xr.F} (h : Xr.Fm w0 W bf gv vb f) : ∃ c, W.cell? ⟨bf, 3, none⟩ = some (.slice (gv.map fun g => ⟨g, 0, none⟩) f.vs.length c) ∧ Pg.RV W ⟨gv.map fun g => ⟨g, 0, none⟩, f.vs.length, c⟩ f.vs := by
 obtain ⟨c, h3, h4⟩ := h.c3
 refine ⟨c, h3, ⟨rfl, h4, by have := h.few; omega, fun i l hl => ?_⟩⟩
 have hi : i < vb.length := by rw [h.len]; exact (List.getElem?_eq_some_iff.1 hl).1
 obtain ⟨g, c', e1, e2, e3, e4, e5, e6⟩ := h.at_ i vb[i] l (List.getElem?_eq_getElem hi) hl
 have hbl := (h.hge vb[i] (by unfold Xr.own; simp)).2
 refine ⟨g, 0, ⟨some ⟨vb[i], 0, none⟩, l.length, c'⟩, by rw [e1]; rfl, World.block_lt_of_cell? W _ e2, by rw [Nat.zero_add]; exact e2, ⟨rfl, e3, by omega, fun j z hz => ⟨vb[i], 0, rfl, hbl, by rw [Nat.zero_add]; exact e5 j z hz⟩⟩⟩
structure Xr.Kp (br : Nat) (ev ev' : Value) (ws : List Nat) (W W' : World) : Prop where
 os : W'.os = W.os
 tape : W'.tape = W.tape
 output : W'.output = W.output
 size : W.heap.size ≤ W'.heap.size
 block : ∀ q, q < W.heap.size → q ≠ br → ev.ownBlock ≠ some q → q ∉ ws → W'.heap[q]? = W.heap[q]?
 evs : ev'.ownBlock = ev.ownBlock ∨ ∀ q, ev'.ownBlock = some q → W.heap.size ≤ q
theorem Xr.Kp.refl (br : Nat) (ev : Value) (ws : List Nat) (W : World) : Xr.Kp br ev ev ws W W := ⟨rfl, rfl, rfl, Nat.le_refl _, fun _ _ _ _ _ => rfl, .inl rfl⟩
theorem Xr.Kp.below {br : Nat} {ev : Value} {ws : List Nat} {W W' : World} (h : Below W.heap.size W W') : Xr.Kp br ev ev ws W W' := ⟨h.os, h.tape, h.output, h.size, fun q h1 _ _ _ => h.block q h1, .inl rfl⟩
theorem Xr.Kp.trans {br : Nat} {e1 e2 e3 : Value} {ws : List Nat} {W1 W2 W3 : World} (h : Xr.Kp br e1 e2 ws W1 W2) (k : Xr.Kp br e2 e3 ws W2 W3) : Xr.Kp br e1 e3 ws W1 W3 := by
 refine ⟨k.os.trans h.os, k.tape.trans h.tape, k.output.trans h.output, Nat.le_trans h.size k.size, fun q h1 h2 h3 h4 => ?_, ?_⟩
 · have he : e2.ownBlock ≠ some q := by
    rcases h.evs with e | e
    · rw [e]; exact h3
    · intro hq; have := e q hq; omega
   exact (k.block q (Nat.lt_of_lt_of_le h1 h.size) h2 he h4).trans (h.block q h1 h2 h3 h4)
 · rcases k.evs with e | e
   · rcases h.evs with f | f
     · exact .inl (e.trans f)
     · exact .inr fun q hq => f q (by rw [← e]; exact hq)
   · exact .inr fun q hq => Nat.le_trans h.size (e q hq)
theorem Xr.Kp.more {br : Nat} {ev ev' : Value} {ws ws' : List Nat} {W W' : World} (h : Xr.Kp br ev ev' ws W W') (hs : ∀ q ∈ ws, q < W.heap.size → q ∈ ws') : Xr.Kp br ev ev' ws' W W' :=
 ⟨h.os, h.tape, h.output, h.size, fun q h1 h2 h3 h4 => h.block q h1 h2 h3 (fun hq => h4 (hs q hq h1)), h.evs⟩
theorem Xr.Kp.set {br : Nat} {ev ev' : Value} {ws : List Nat} {W W' : World} (h : Xr.Kp br ev ev' ws W W') (b o : Nat) (v : Value) (hb : b = br ∨ b ∈ ws) : Xr.Kp br ev ev' ws W (W'.setCell ⟨b, o, none⟩ v) :=
 ⟨h.os, h.tape, h.output, by rw [World.size_setCell]; exact h.size, fun q h1 h2 h3 h4 => (Xr.set_other (by rintro rfl; rcases hb with hb | hb; exact h2 hb; exact h4 hb)).trans (h.block q h1 h2 h3 h4), h.evs⟩
theorem Xr.Kp.bel {br : Nat} {ev ev' : Value} {ws : List Nat} {w0 W W' : World} (h : Xr.Kp br ev ev' ws W W') (hb : Below w0.heap.size w0 W) (h1 : w0.heap.size ≤ br) (h2 : ∀ q, ev.ownBlock = some q → w0.heap.size ≤ q) (h3 : ∀ q ∈ ws, w0.heap.size ≤ q) : Below w0.heap.size w0 W' :=
 ⟨h.os.trans hb.os, h.tape.trans hb.tape, h.output.trans hb.output, Nat.le_trans hb.size h.size, fun q hq => (h.block q (Nat.lt_of_lt_of_le hq hb.size) (by omega) (fun e => by have := h2 q e; omega) (fun e => by have := h3 q e; omega)).trans (hb.block q hq)⟩
structure Xr.J (w0 W : World) (br : Nat) (fs : Pg.Sl) (s : Xr.S) (ev : Value) (bf : Nat) (gv : Option Nat) (vb : List Nat) (f : Xr.F) : Prop where
 m : Xr.M w0 W br fs s ev
 fm : Xr.Fm w0 W bf gv vb f
 nbr : br ∉ Xr.own bf gv vb
 nev : ∀ q, ev.ownBlock = some q → q ∉ Xr.own bf gv vb
def Xr.ws (bf : Nat) (vb : List Nat) : List Nat := bf :: vb
theorem Xr.ws_own {bf : Nat} {gv : Option Nat} {vb : List Nat} {q : Nat} (h : q ∈ Xr.ws bf vb) : q ∈ Xr.own bf gv vb := by
 unfold Xr.ws at h
 unfold Xr.own
 simp at h ⊢
 rcases h with h | h
 · exact .inl h
 · exact .inr (.inr h)
theorem Xr.J.told {w0 W W' : World} {br : Nat} {fs : Pg.Sl} {s s' : Xr.S} {ev ev' : Value} {bf : Nat} {gv : Option Nat} {vb : List Nat} {f : Xr.F} {ws : List Nat} (h : Xr.J w0 W br fs s ev bf gv vb f) (hm : Xr.M w0 W' br fs s' ev') (hk : Xr.Kp br ev ev' ws W W') (hw : ∀ q ∈ ws, q ∉ Xr.own bf gv vb) : Xr.J w0 W' br fs s' ev' bf gv vb f := by
 refine ⟨hm, h.fm.kept hk.size (fun q hq => hk.block q (h.fm.hge q hq).2 (fun e => h.nbr (e ▸ hq)) (fun e => h.nev q e hq) (fun e => hw q e hq)), h.nbr, fun q hq hin => ?_⟩
 rcases hk.evs with e | e
 · exact h.nev q (by rw [← e]; exact hq) hin
 · have h1 := e q hq
   have h2 := (h.fm.hge q hin).2
   omega
theorem Xr.J.below {w0 W W' : World} {br : Nat} {fs : Pg.Sl} {s : Xr.S} {ev : Value} {bf : Nat} {gv : Option Nat} {vb : List Nat} {f : Xr.F} (h : Xr.J w0 W br fs s ev bf gv vb f) (hb : Below W.heap.size W W') : Xr.J w0 W' br fs s ev bf gv vb f := ⟨h.m.below hb, h.fm.below hb, h.nbr, h.nev⟩
theorem Xr.ret3 {W : World} {b : Nat} {a0 a1 a2 : Value} (h0 : W.cell? ⟨b, 0, none⟩ = some a0) (h1 : W.cell? ⟨b, 1, none⟩ = some a1) (h2 : W.cell? ⟨b, 2, none⟩ = some a2) (u0 u1 u2 : Value) :
  let S := ((W.setCell ⟨b, 0, none⟩ u0).setCell ⟨b, 1, none⟩ u1).setCell ⟨b, 2, none⟩ u2
  (S.cell? ⟨b, 0, none⟩ = some u0 ∧ S.cell? ⟨b, 1, none⟩ = some u1 ∧ S.cell? ⟨b, 2, none⟩ = some u2) ∧ S.heap.size = W.heap.size ∧ ∀ q, q ≠ b → S.heap[q]? = W.heap[q]? := by
 have d : ∀ i j : Nat, i ≠ j → (⟨b, i, none⟩ : Addr) ≠ ⟨b, j, none⟩ := fun i j hij hh => hij (congrArg Addr.off hh)
 refine ⟨⟨?_, ?_, ?_⟩, by simp [World.setCell], fun q hq => ((Below.heap_setCell _ _ _ _ hq).trans (Below.heap_setCell _ _ _ _ hq)).trans (Below.heap_setCell _ _ _ _ hq)⟩
 · rw [World.cell?_setCell_other _ _ _ _ (d 2 0 (by omega)), World.cell?_setCell_other _ _ _ _ (d 1 0 (by omega))]
   exact World.cell?_setCell_same _ _ _ h0
 · rw [World.cell?_setCell_other _ _ _ _ (d 2 1 (by omega))]
   exact World.cell?_setCell_same _ _ _ (by rw [World.cell?_setCell_other _ _ _ _ (d 0 1 (by omega))]; exact h1)
 · exact World.cell?_setCell_same _ _ _ (by rw [World.cell?_setCell_other _ _ _ _ (d 1 2 (by omega)), World.cell?_setCell_other _ _ _ _ (d 0 2 (by omega))]; exact h2)
end Go.Proofs.YtpfogjplnodacaaGreat
