/-
  Contracts of trace's oneIf, isCell and join, and of the document's Wrap and OpOf. By the verifier.
-/
import Derived.Test.YtcalcikclcmkaaaPRef
set_option maxHeartbeats 800000
namespace Go.Proofs.Ytcalcikclcmkaaa
open Go.RowKit
set_option linter.unusedVariables false
theorem oneIf_any (b : Bool) (w : World) : Calls Try.prog 87 #[.bool b] w fun r w' => r = .returned (.int .i64 (if b then 1 else 0)) ∧ w' = w := by
 go_enter Try.func87, Try.ntmps87
 cases b
 · go_wp2_with fail
   go_ret
   exact ⟨rfl, rfl⟩
 · go_wp2_with fail
   go_ret
   exact ⟨rfl, rfl⟩
theorem isCell_any (z : Int) (a : Option Addr) (l c : Nat) (w : World) (hl : l ≤ 35184372088832) : Calls Try.prog 61 #[.int .i64 z, .slice a l c] w fun r w' => r = .returned (.bool (decide (0 ≤ z ∧ z < (l : Int)))) ∧ w' = w := by
 obtain ⟨D, hD⟩ : ∃ D, D = decide (0 ≤ z ∧ z < (l : Int)) := ⟨_, rfl⟩
 rw [← hD]
 have HD := hide hD
 clear hD
 go_enter Try.func61, Try.ntmps61
 by_cases h0 : z ≥ 0
 · have HE := hide (show D = decide (z < (l : Int)) by rw [unhide HD]; exact decide_eq_decide.2 ⟨fun h => h.2, fun h => ⟨h0, h⟩⟩)
   go_wp2_with fail
   go_ret
   exact ⟨ret_bool (unhide HE).symm, rfl⟩
 · have HE := hide (show D = false by rw [unhide HD]; exact decide_eq_false (fun h => h0 h.1))
   go_wp2_with fail
   go_ret
   exact ⟨ret_bool (unhide HE).symm, rfl⟩
def Pg.w32 (n : Int) : Int := wrap32 n
theorem Pg.w32_fix (n : Int) : wrap64 (wrap32 n) = Pg.w32 n := by unfold Pg.w32 wrap64 wrap32; omega
theorem Pg.tmod_32 (n : Int) : n.tmod 4294967296 = n % 4294967296 ∨ n.tmod 4294967296 = n % 4294967296 - 4294967296 := by
 rw [Int.tmod_eq_emod]
 split
 · left; omega
 · right; simp
theorem Wrap_any (n : Int) (w : World) : Calls Try.prog 66 #[.int .i64 n] w fun r w' => r = .returned (.int .i64 (Pg.w32 n)) ∧ w' = w := by
 have hT := Pg.tmod_32 n
 have hlo : -4294967296 ≤ n.tmod 4294967296 := by omega
 have hhi : n.tmod 4294967296 < 4294967296 := by omega
 have HT := hide hT
 clear hT
 obtain ⟨R, hR⟩ : ∃ R, R = Pg.w32 n := ⟨_, rfl⟩
 rw [← hR]
 have HR := hide (show R = (n + 2147483648) % 4294967296 - 2147483648 by rw [hR]; unfold Pg.w32 wrap32; omega)
 clear hR
 go_enter Try.func66, Try.ntmps66
 by_cases c1 : n.tmod 4294967296 < 0
 · by_cases c2 : n.tmod 4294967296 + 4294967296 > 2147483647
   · have HF := hide (show n.tmod 4294967296 + 4294967296 - 4294967296 = R by have a := unhide HT; have b := unhide HR; omega)
     go_wp2_with fail
     go_ret
     exact ⟨ret_int (by have := unhide HF; omega), rfl⟩
   · have HF := hide (show n.tmod 4294967296 + 4294967296 = R by have a := unhide HT; have b := unhide HR; omega)
     go_wp2_with fail
     go_ret
     exact ⟨ret_int (by have := unhide HF; omega), rfl⟩
 · by_cases c2 : n.tmod 4294967296 > 2147483647
   · have HF := hide (show n.tmod 4294967296 - 4294967296 = R by have a := unhide HT; have b := unhide HR; omega)
     go_wp2_with fail
     go_ret
     exact ⟨ret_int (by have := unhide HF; omega), rfl⟩
   · have HF := hide (show n.tmod 4294967296 = R by have a := unhide HT; have b := unhide HR; omega)
     go_wp2_with fail
     go_ret
     exact ⟨ret_int (by have := unhide HF; omega), rfl⟩
def Pg.op (k a b : Int) : Int × Int :=
 if (k = 7 ∨ k = 8) ∧ b = 0 then (0, 2)
 else (Pg.w32 (if k = 4 then wrap64 (a + b) else if k = 5 then wrap64 (a - b) else if k = 6 then wrap64 (a * b) else if k = 7 then wrap64 (a.tdiv b) else if k = 8 then a.tmod b else if k = 9 then (if a < b then 1 else 0) else if k = 10 then (if a = b then 1 else 0) else a), 0)
theorem join_4 (a b : Int) (w : World) : Calls Try.prog 62 #[.int .i64 4, .int .i64 a, .int .i64 b] w fun r w' => r = .returned (.tuple #[.int .i64 (Pg.w32 (wrap64 (a + b))), .int .i64 0]) ∧ w' = w := by
 go_enter Try.func62, Try.ntmps62
 go_wp2_with fail
 exact bodyPost_ret (v := .tuple #[.int .i64 (wrap64 (wrap32 (wrap64 (a + b)))), .int .i64 0]) (by simp [results, Try.results62, go_sem]) rfl ⟨by rw [Pg.w32_fix], rfl⟩
theorem op_4 (a b : Int) (w : World) : Calls Try.prog 32 #[.int .i64 4, .int .i64 a, .int .i64 b] w fun r w' => r = .returned (.tuple #[.int .i64 (Pg.w32 (wrap64 (a + b))), .int .i64 0]) ∧ w' = w := by
 go_enter Try.func32, Try.ntmps32
 go_wp2_with fail
 refine (Wrap_any _ _).mono ?_
 rintro r w1 ⟨rfl, rfl⟩
 go_wp2_with fail
 exact bodyPost_ret (v := .tuple #[.int .i64 (Pg.w32 (wrap64 (a + b))), .int .i64 0]) (by simp [results, Try.results32, go_sem]) rfl ⟨by rfl, rfl⟩
theorem join_5 (a b : Int) (w : World) : Calls Try.prog 62 #[.int .i64 5, .int .i64 a, .int .i64 b] w fun r w' => r = .returned (.tuple #[.int .i64 (Pg.w32 (wrap64 (a - b))), .int .i64 0]) ∧ w' = w := by
 go_enter Try.func62, Try.ntmps62
 go_wp2_with fail
 exact bodyPost_ret (v := .tuple #[.int .i64 (wrap64 (wrap32 (wrap64 (a - b)))), .int .i64 0]) (by simp [results, Try.results62, go_sem]) rfl ⟨by rw [Pg.w32_fix], rfl⟩
theorem op_5 (a b : Int) (w : World) : Calls Try.prog 32 #[.int .i64 5, .int .i64 a, .int .i64 b] w fun r w' => r = .returned (.tuple #[.int .i64 (Pg.w32 (wrap64 (a - b))), .int .i64 0]) ∧ w' = w := by
 go_enter Try.func32, Try.ntmps32
 go_wp2_with fail
 refine (Wrap_any _ _).mono ?_
 rintro r w1 ⟨rfl, rfl⟩
 go_wp2_with fail
 exact bodyPost_ret (v := .tuple #[.int .i64 (Pg.w32 (wrap64 (a - b))), .int .i64 0]) (by simp [results, Try.results32, go_sem]) rfl ⟨by rfl, rfl⟩
theorem join_6 (a b : Int) (w : World) : Calls Try.prog 62 #[.int .i64 6, .int .i64 a, .int .i64 b] w fun r w' => r = .returned (.tuple #[.int .i64 (Pg.w32 (wrap64 (a * b))), .int .i64 0]) ∧ w' = w := by
 go_enter Try.func62, Try.ntmps62
 go_wp2_with fail
 exact bodyPost_ret (v := .tuple #[.int .i64 (wrap64 (wrap32 (wrap64 (a * b)))), .int .i64 0]) (by simp [results, Try.results62, go_sem]) rfl ⟨by rw [Pg.w32_fix], rfl⟩
theorem op_6 (a b : Int) (w : World) : Calls Try.prog 32 #[.int .i64 6, .int .i64 a, .int .i64 b] w fun r w' => r = .returned (.tuple #[.int .i64 (Pg.w32 (wrap64 (a * b))), .int .i64 0]) ∧ w' = w := by
 go_enter Try.func32, Try.ntmps32
 go_wp2_with fail
 refine (Wrap_any _ _).mono ?_
 rintro r w1 ⟨rfl, rfl⟩
 go_wp2_with fail
 exact bodyPost_ret (v := .tuple #[.int .i64 (Pg.w32 (wrap64 (a * b))), .int .i64 0]) (by simp [results, Try.results32, go_sem]) rfl ⟨by rfl, rfl⟩
theorem join_7 (a b : Int) (w : World) (hb : b ≠ 0) : Calls Try.prog 62 #[.int .i64 7, .int .i64 a, .int .i64 b] w fun r w' => r = .returned (.tuple #[.int .i64 (Pg.w32 (wrap64 (a.tdiv b))), .int .i64 0]) ∧ w' = w := by
 have g : (b == 0) = false := by simpa using hb
 go_enter Try.func62, Try.ntmps62
 go_wp2_with fail
 exact bodyPost_ret (v := .tuple #[.int .i64 (wrap64 (wrap32 (wrap64 (a.tdiv b)))), .int .i64 0]) (by simp [results, Try.results62, go_sem]) rfl ⟨by rw [Pg.w32_fix], rfl⟩
theorem op_7 (a b : Int) (w : World) (hb : b ≠ 0) : Calls Try.prog 32 #[.int .i64 7, .int .i64 a, .int .i64 b] w fun r w' => r = .returned (.tuple #[.int .i64 (Pg.w32 (wrap64 (a.tdiv b))), .int .i64 0]) ∧ w' = w := by
 have g : (b == 0) = false := by simpa using hb
 go_enter Try.func32, Try.ntmps32
 go_wp2_with fail
 refine (Wrap_any _ _).mono ?_
 rintro r w1 ⟨rfl, rfl⟩
 go_wp2_with fail
 exact bodyPost_ret (v := .tuple #[.int .i64 (Pg.w32 (wrap64 (a.tdiv b))), .int .i64 0]) (by simp [results, Try.results32, go_sem]) rfl ⟨by rfl, rfl⟩
theorem join_8 (a b : Int) (w : World) (hb : b ≠ 0) : Calls Try.prog 62 #[.int .i64 8, .int .i64 a, .int .i64 b] w fun r w' => r = .returned (.tuple #[.int .i64 (Pg.w32 (a.tmod b)), .int .i64 0]) ∧ w' = w := by
 have g : (b == 0) = false := by simpa using hb
 go_enter Try.func62, Try.ntmps62
 go_wp2_with fail
 exact bodyPost_ret (v := .tuple #[.int .i64 (wrap64 (wrap32 (a.tmod b))), .int .i64 0]) (by simp [results, Try.results62, go_sem]) rfl ⟨by rw [Pg.w32_fix], rfl⟩
theorem op_8 (a b : Int) (w : World) (hb : b ≠ 0) : Calls Try.prog 32 #[.int .i64 8, .int .i64 a, .int .i64 b] w fun r w' => r = .returned (.tuple #[.int .i64 (Pg.w32 (a.tmod b)), .int .i64 0]) ∧ w' = w := by
 have g : (b == 0) = false := by simpa using hb
 go_enter Try.func32, Try.ntmps32
 go_wp2_with fail
 refine (Wrap_any _ _).mono ?_
 rintro r w1 ⟨rfl, rfl⟩
 go_wp2_with fail
 exact bodyPost_ret (v := .tuple #[.int .i64 (Pg.w32 (a.tmod b)), .int .i64 0]) (by simp [results, Try.results32, go_sem]) rfl ⟨by rfl, rfl⟩
theorem Pg.w32_one : Pg.w32 1 = 1 := by unfold Pg.w32 wrap32; omega
theorem Pg.w32_zero : Pg.w32 0 = 0 := by unfold Pg.w32 wrap32; omega
theorem join_zero7 (a : Int) (w : World) : Calls Try.prog 62 #[.int .i64 7, .int .i64 a, .int .i64 0] w fun r w' => r = .returned (.tuple #[.int .i64 0, .int .i64 2]) ∧ w' = w := by
 go_enter Try.func62, Try.ntmps62
 go_wp2_with fail
 exact bodyPost_ret (v := .tuple #[.int .i64 0, .int .i64 2]) (by simp [results, Try.results62, go_sem]) rfl ⟨rfl, rfl⟩
theorem join_zero8 (a : Int) (w : World) : Calls Try.prog 62 #[.int .i64 8, .int .i64 a, .int .i64 0] w fun r w' => r = .returned (.tuple #[.int .i64 0, .int .i64 2]) ∧ w' = w := by
 go_enter Try.func62, Try.ntmps62
 go_wp2_with fail
 exact bodyPost_ret (v := .tuple #[.int .i64 0, .int .i64 2]) (by simp [results, Try.results62, go_sem]) rfl ⟨rfl, rfl⟩
theorem join_9yes (a b : Int) (w : World) (h : a < b) : Calls Try.prog 62 #[.int .i64 9, .int .i64 a, .int .i64 b] w fun r w' => r = .returned (.tuple #[.int .i64 1, .int .i64 0]) ∧ w' = w := by
 have g : a < b := h
 go_enter Try.func62, Try.ntmps62
 go_wp2_with fail
 refine (oneIf_any _ _).mono ?_
 rintro r w1 ⟨rfl, rfl⟩
 go_wp2_with fail
 exact bodyPost_ret (v := .tuple #[.int .i64 1, .int .i64 0]) (by simp [results, Try.results62, go_sem]) rfl ⟨rfl, rfl⟩
theorem join_9no (a b : Int) (w : World) (h : ¬ a < b) : Calls Try.prog 62 #[.int .i64 9, .int .i64 a, .int .i64 b] w fun r w' => r = .returned (.tuple #[.int .i64 0, .int .i64 0]) ∧ w' = w := by
 have g : ¬ a < b := h
 go_enter Try.func62, Try.ntmps62
 go_wp2_with fail
 refine (oneIf_any _ _).mono ?_
 rintro r w1 ⟨rfl, rfl⟩
 go_wp2_with fail
 exact bodyPost_ret (v := .tuple #[.int .i64 0, .int .i64 0]) (by simp [results, Try.results62, go_sem]) rfl ⟨rfl, rfl⟩
theorem join_10yes (a b : Int) (w : World) (h : a = b) : Calls Try.prog 62 #[.int .i64 10, .int .i64 a, .int .i64 b] w fun r w' => r = .returned (.tuple #[.int .i64 1, .int .i64 0]) ∧ w' = w := by
 have g : (a == b) = true := by simpa using h
 clear h
 go_enter Try.func62, Try.ntmps62
 go_wp2_with fail
 refine (oneIf_any _ _).mono ?_
 rintro r w1 ⟨rfl, rfl⟩
 go_wp2_with fail
 exact bodyPost_ret (v := .tuple #[.int .i64 1, .int .i64 0]) (by simp [results, Try.results62, go_sem]) rfl ⟨rfl, rfl⟩
theorem join_10no (a b : Int) (w : World) (h : ¬ a = b) : Calls Try.prog 62 #[.int .i64 10, .int .i64 a, .int .i64 b] w fun r w' => r = .returned (.tuple #[.int .i64 0, .int .i64 0]) ∧ w' = w := by
 have g : (a == b) = false := by simpa using h
 clear h
 go_enter Try.func62, Try.ntmps62
 go_wp2_with fail
 refine (oneIf_any _ _).mono ?_
 rintro r w1 ⟨rfl, rfl⟩
 go_wp2_with fail
 exact bodyPost_ret (v := .tuple #[.int .i64 0, .int .i64 0]) (by simp [results, Try.results62, go_sem]) rfl ⟨rfl, rfl⟩
theorem join_any (k a b : Int) (w : World) (hk : 4 ≤ k ∧ k ≤ 10) : Calls Try.prog 62 #[.int .i64 k, .int .i64 a, .int .i64 b] w fun r w' => r = .returned (.tuple #[.int .i64 (Pg.op k a b).1, .int .i64 (Pg.op k a b).2]) ∧ w' = w := by
 have h : k = 4 ∨ k = 5 ∨ k = 6 ∨ k = 7 ∨ k = 8 ∨ k = 9 ∨ k = 10 := by omega
 rcases h with rfl | rfl | rfl | rfl | rfl | rfl | rfl
 · exact join_4 a b w
 · exact join_5 a b w
 · exact join_6 a b w
 · by_cases hb : b = 0
   · subst hb; exact join_zero7 a w
   · rw [show Pg.op 7 a b = (Pg.w32 (wrap64 (a.tdiv b)), 0) by unfold Pg.op; rw [if_neg (fun h => hb h.2)]; rfl]
     exact join_7 a b w hb
 · by_cases hb : b = 0
   · subst hb; exact join_zero8 a w
   · rw [show Pg.op 8 a b = (Pg.w32 (a.tmod b), 0) by unfold Pg.op; rw [if_neg (fun h => hb h.2)]; rfl]
     exact join_8 a b w hb
 · by_cases h : a < b
   · rw [show Pg.op 9 a b = (1, 0) by unfold Pg.op; rw [if_neg (by omega)]; simp [h, Pg.w32_one]]
     exact join_9yes a b w h
   · rw [show Pg.op 9 a b = (0, 0) by unfold Pg.op; rw [if_neg (by omega)]; simp [h, Pg.w32_zero]]
     exact join_9no a b w h
 · by_cases h : a = b
   · rw [show Pg.op 10 a b = (1, 0) by unfold Pg.op; rw [if_neg (by omega)]; simp [h, Pg.w32_one]]
     exact join_10yes a b w h
   · rw [show Pg.op 10 a b = (0, 0) by unfold Pg.op; rw [if_neg (by omega)]; simp [h, Pg.w32_zero]]
     exact join_10no a b w h
theorem op_zero7 (a : Int) (w : World) : Calls Try.prog 32 #[.int .i64 7, .int .i64 a, .int .i64 0] w fun r w' => r = .returned (.tuple #[.int .i64 0, .int .i64 2]) ∧ w' = w := by
 go_enter Try.func32, Try.ntmps32
 go_wp2_with fail
 exact bodyPost_ret (v := .tuple #[.int .i64 0, .int .i64 2]) (by simp [results, Try.results32, go_sem]) rfl ⟨rfl, rfl⟩
theorem op_zero8 (a : Int) (w : World) : Calls Try.prog 32 #[.int .i64 8, .int .i64 a, .int .i64 0] w fun r w' => r = .returned (.tuple #[.int .i64 0, .int .i64 2]) ∧ w' = w := by
 go_enter Try.func32, Try.ntmps32
 go_wp2_with fail
 exact bodyPost_ret (v := .tuple #[.int .i64 0, .int .i64 2]) (by simp [results, Try.results32, go_sem]) rfl ⟨rfl, rfl⟩
theorem op_9yes (a b : Int) (w : World) (h : a < b) : Calls Try.prog 32 #[.int .i64 9, .int .i64 a, .int .i64 b] w fun r w' => r = .returned (.tuple #[.int .i64 1, .int .i64 0]) ∧ w' = w := by
 have g : a < b := h
 go_enter Try.func32, Try.ntmps32
 go_wp2_with fail
 exact bodyPost_ret (v := .tuple #[.int .i64 1, .int .i64 0]) (by simp [results, Try.results32, go_sem]) rfl ⟨rfl, rfl⟩
theorem op_9no (a b : Int) (w : World) (h : ¬ a < b) : Calls Try.prog 32 #[.int .i64 9, .int .i64 a, .int .i64 b] w fun r w' => r = .returned (.tuple #[.int .i64 0, .int .i64 0]) ∧ w' = w := by
 have g : ¬ a < b := h
 go_enter Try.func32, Try.ntmps32
 go_wp2_with fail
 exact bodyPost_ret (v := .tuple #[.int .i64 0, .int .i64 0]) (by simp [results, Try.results32, go_sem]) rfl ⟨rfl, rfl⟩
theorem op_10yes (a b : Int) (w : World) (h : a = b) : Calls Try.prog 32 #[.int .i64 10, .int .i64 a, .int .i64 b] w fun r w' => r = .returned (.tuple #[.int .i64 1, .int .i64 0]) ∧ w' = w := by
 have g : (a == b) = true := by simpa using h
 clear h
 go_enter Try.func32, Try.ntmps32
 go_wp2_with fail
 exact bodyPost_ret (v := .tuple #[.int .i64 1, .int .i64 0]) (by simp [results, Try.results32, go_sem]) rfl ⟨rfl, rfl⟩
theorem op_10no (a b : Int) (w : World) (h : ¬ a = b) : Calls Try.prog 32 #[.int .i64 10, .int .i64 a, .int .i64 b] w fun r w' => r = .returned (.tuple #[.int .i64 0, .int .i64 0]) ∧ w' = w := by
 have g : (a == b) = false := by simpa using h
 clear h
 go_enter Try.func32, Try.ntmps32
 go_wp2_with fail
 exact bodyPost_ret (v := .tuple #[.int .i64 0, .int .i64 0]) (by simp [results, Try.results32, go_sem]) rfl ⟨rfl, rfl⟩
theorem op_any (k a b : Int) (w : World) (hk : 4 ≤ k ∧ k ≤ 10) : Calls Try.prog 32 #[.int .i64 k, .int .i64 a, .int .i64 b] w fun r w' => r = .returned (.tuple #[.int .i64 (Pg.op k a b).1, .int .i64 (Pg.op k a b).2]) ∧ w' = w := by
 have h : k = 4 ∨ k = 5 ∨ k = 6 ∨ k = 7 ∨ k = 8 ∨ k = 9 ∨ k = 10 := by omega
 rcases h with rfl | rfl | rfl | rfl | rfl | rfl | rfl
 · exact op_4 a b w
 · exact op_5 a b w
 · exact op_6 a b w
 · by_cases hb : b = 0
   · subst hb; exact op_zero7 a w
   · rw [show Pg.op 7 a b = (Pg.w32 (wrap64 (a.tdiv b)), 0) by unfold Pg.op; rw [if_neg (fun h => hb h.2)]; rfl]
     exact op_7 a b w hb
 · by_cases hb : b = 0
   · subst hb; exact op_zero8 a w
   · rw [show Pg.op 8 a b = (Pg.w32 (a.tmod b), 0) by unfold Pg.op; rw [if_neg (fun h => hb h.2)]; rfl]
     exact op_8 a b w hb
 · by_cases h : a < b
   · rw [show Pg.op 9 a b = (1, 0) by unfold Pg.op; rw [if_neg (by omega)]; simp [h, Pg.w32_one]]
     exact op_9yes a b w h
   · rw [show Pg.op 9 a b = (0, 0) by unfold Pg.op; rw [if_neg (by omega)]; simp [h, Pg.w32_zero]]
     exact op_9no a b w h
 · by_cases h : a = b
   · rw [show Pg.op 10 a b = (1, 0) by unfold Pg.op; rw [if_neg (by omega)]; simp [h, Pg.w32_one]]
     exact op_10yes a b w h
   · rw [show Pg.op 10 a b = (0, 0) by unfold Pg.op; rw [if_neg (by omega)]; simp [h, Pg.w32_zero]]
     exact op_10no a b w h
end Go.Proofs.Ytcalcikclcmkaaa
