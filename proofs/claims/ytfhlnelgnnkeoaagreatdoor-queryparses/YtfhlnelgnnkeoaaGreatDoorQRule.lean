/-
  The contract of ruleOf of package query. By the verifier.
-/
import Derived.Test.YtfhlnelgnnkeoaaGreatDoorQBase
namespace Go.Proofs.YtfhlnelgnnkeoaaGreatDoor
open Go.RowKit
set_option linter.unusedVariables false

/-- The word of a kind. -/
def Qk.word (k : Int) : ByteArray := match k with
  | 1 => ⟨#[115, 116, 101, 112]⟩
  | 2 => ⟨#[119, 114, 105, 116, 101]⟩
  | 3 => ⟨#[99, 97, 108, 108]⟩
  | 4 => ⟨#[112, 114, 105, 110, 116]⟩
  | 5 => ⟨#[108, 101, 115, 115]⟩
  | 6 => ⟨#[115, 97, 109, 101]⟩
  | 7 => ⟨#[110, 111, 116]⟩
  | 8 => ⟨#[97, 110, 100]⟩
  | 9 => ⟨#[111, 114]⟩
  | 10 => ⟨#[112, 114, 101, 118]⟩
  | 11 => ⟨#[111, 110, 99, 101]⟩
  | 12 => ⟨#[97, 108, 108]⟩
  | 13 => ⟨#[115, 105, 110, 99, 101]⟩
  | 14 => ⟨#[115, 111, 111, 110]⟩
  | _ => ⟨#[]⟩
def Qk.argsI (k : Int) : Int := if Qk.isK k then (Qk.argsN k : Nat) else 0
/-- A kind's rule. -/
def Qk.rule (k : Int) : Value := .agg #[.string (Qk.word k), .int .i64 (Qk.argsI k), .int .i64 (Qk.least k), .int .i64 (Qk.most k)]

set_option maxHeartbeats 400000 in
theorem ruleOf_1 (w : World) : Calls Tryz.prog 38 #[.int .i64 1] w fun r w' => r = .returned (.tuple #[.agg #[.string ⟨#[115, 116, 101, 112]⟩, .int .i64 0, .int .i64 (-1), .int .i64 9999999], .bool true]) ∧ Below w.heap.size w w' := by
  go_enter Tryz.func38, Tryz.ntmps38
  go_wp2_with fail
  refine bodyPost_ret (v := .tuple #[.agg #[.string ⟨#[115, 116, 101, 112]⟩, .int .i64 0, .int .i64 (-1), .int .i64 9999999], .bool true]) (by simp [results, Tryz.results38, go_sem]) rfl ⟨rfl, ?_⟩
  first | exact (Below.refl _ _).alloc (Nat.le_refl _) _ | exact ((Below.refl _ _).alloc (Nat.le_refl _) _).setCell (Nat.le_refl _) _ | exact ((((((Below.refl _ _).alloc (Nat.le_refl _) _).setCell (Nat.le_refl _) _).setCell (Nat.le_refl _) _).setCell (Nat.le_refl _) _)).setCell (Nat.le_refl _) _
set_option maxHeartbeats 400000 in
theorem ruleOf_2 (w : World) : Calls Tryz.prog 38 #[.int .i64 2] w fun r w' => r = .returned (.tuple #[.agg #[.string ⟨#[119, 114, 105, 116, 101]⟩, .int .i64 0, .int .i64 (-1), .int .i64 9999999], .bool true]) ∧ Below w.heap.size w w' := by
  go_enter Tryz.func38, Tryz.ntmps38
  go_wp2_with fail
  refine bodyPost_ret (v := .tuple #[.agg #[.string ⟨#[119, 114, 105, 116, 101]⟩, .int .i64 0, .int .i64 (-1), .int .i64 9999999], .bool true]) (by simp [results, Tryz.results38, go_sem]) rfl ⟨rfl, ?_⟩
  first | exact (Below.refl _ _).alloc (Nat.le_refl _) _ | exact ((Below.refl _ _).alloc (Nat.le_refl _) _).setCell (Nat.le_refl _) _ | exact ((((((Below.refl _ _).alloc (Nat.le_refl _) _).setCell (Nat.le_refl _) _).setCell (Nat.le_refl _) _).setCell (Nat.le_refl _) _)).setCell (Nat.le_refl _) _
set_option maxHeartbeats 400000 in
theorem ruleOf_3 (w : World) : Calls Tryz.prog 38 #[.int .i64 3] w fun r w' => r = .returned (.tuple #[.agg #[.string ⟨#[99, 97, 108, 108]⟩, .int .i64 0, .int .i64 (-1), .int .i64 9999999], .bool true]) ∧ Below w.heap.size w w' := by
  go_enter Tryz.func38, Tryz.ntmps38
  go_wp2_with fail
  refine bodyPost_ret (v := .tuple #[.agg #[.string ⟨#[99, 97, 108, 108]⟩, .int .i64 0, .int .i64 (-1), .int .i64 9999999], .bool true]) (by simp [results, Tryz.results38, go_sem]) rfl ⟨rfl, ?_⟩
  first | exact (Below.refl _ _).alloc (Nat.le_refl _) _ | exact ((Below.refl _ _).alloc (Nat.le_refl _) _).setCell (Nat.le_refl _) _ | exact ((((((Below.refl _ _).alloc (Nat.le_refl _) _).setCell (Nat.le_refl _) _).setCell (Nat.le_refl _) _).setCell (Nat.le_refl _) _)).setCell (Nat.le_refl _) _
set_option maxHeartbeats 400000 in
theorem ruleOf_4 (w : World) : Calls Tryz.prog 38 #[.int .i64 4] w fun r w' => r = .returned (.tuple #[.agg #[.string ⟨#[112, 114, 105, 110, 116]⟩, .int .i64 0, .int .i64 (0), .int .i64 0], .bool true]) ∧ Below w.heap.size w w' := by
  go_enter Tryz.func38, Tryz.ntmps38
  go_wp2_with fail
  refine bodyPost_ret (v := .tuple #[.agg #[.string ⟨#[112, 114, 105, 110, 116]⟩, .int .i64 0, .int .i64 (0), .int .i64 0], .bool true]) (by simp [results, Tryz.results38, go_sem]) rfl ⟨rfl, ?_⟩
  first | exact (Below.refl _ _).alloc (Nat.le_refl _) _ | exact ((Below.refl _ _).alloc (Nat.le_refl _) _).setCell (Nat.le_refl _) _ | exact ((((((Below.refl _ _).alloc (Nat.le_refl _) _).setCell (Nat.le_refl _) _).setCell (Nat.le_refl _) _).setCell (Nat.le_refl _) _)).setCell (Nat.le_refl _) _
set_option maxHeartbeats 400000 in
theorem ruleOf_5 (w : World) : Calls Tryz.prog 38 #[.int .i64 5] w fun r w' => r = .returned (.tuple #[.agg #[.string ⟨#[108, 101, 115, 115]⟩, .int .i64 0, .int .i64 (-9999999), .int .i64 9999999], .bool true]) ∧ Below w.heap.size w w' := by
  go_enter Tryz.func38, Tryz.ntmps38
  go_wp2_with fail
  refine bodyPost_ret (v := .tuple #[.agg #[.string ⟨#[108, 101, 115, 115]⟩, .int .i64 0, .int .i64 (-9999999), .int .i64 9999999], .bool true]) (by simp [results, Tryz.results38, go_sem]) rfl ⟨rfl, ?_⟩
  first | exact (Below.refl _ _).alloc (Nat.le_refl _) _ | exact ((Below.refl _ _).alloc (Nat.le_refl _) _).setCell (Nat.le_refl _) _ | exact ((((((Below.refl _ _).alloc (Nat.le_refl _) _).setCell (Nat.le_refl _) _).setCell (Nat.le_refl _) _).setCell (Nat.le_refl _) _)).setCell (Nat.le_refl _) _
set_option maxHeartbeats 400000 in
theorem ruleOf_6 (w : World) : Calls Tryz.prog 38 #[.int .i64 6] w fun r w' => r = .returned (.tuple #[.agg #[.string ⟨#[115, 97, 109, 101]⟩, .int .i64 0, .int .i64 (-9999999), .int .i64 9999999], .bool true]) ∧ Below w.heap.size w w' := by
  go_enter Tryz.func38, Tryz.ntmps38
  go_wp2_with fail
  refine bodyPost_ret (v := .tuple #[.agg #[.string ⟨#[115, 97, 109, 101]⟩, .int .i64 0, .int .i64 (-9999999), .int .i64 9999999], .bool true]) (by simp [results, Tryz.results38, go_sem]) rfl ⟨rfl, ?_⟩
  first | exact (Below.refl _ _).alloc (Nat.le_refl _) _ | exact ((Below.refl _ _).alloc (Nat.le_refl _) _).setCell (Nat.le_refl _) _ | exact ((((((Below.refl _ _).alloc (Nat.le_refl _) _).setCell (Nat.le_refl _) _).setCell (Nat.le_refl _) _).setCell (Nat.le_refl _) _)).setCell (Nat.le_refl _) _
set_option maxHeartbeats 400000 in
theorem ruleOf_7 (w : World) : Calls Tryz.prog 38 #[.int .i64 7] w fun r w' => r = .returned (.tuple #[.agg #[.string ⟨#[110, 111, 116]⟩, .int .i64 1, .int .i64 (0), .int .i64 0], .bool true]) ∧ Below w.heap.size w w' := by
  go_enter Tryz.func38, Tryz.ntmps38
  go_wp2_with fail
  refine bodyPost_ret (v := .tuple #[.agg #[.string ⟨#[110, 111, 116]⟩, .int .i64 1, .int .i64 (0), .int .i64 0], .bool true]) (by simp [results, Tryz.results38, go_sem]) rfl ⟨rfl, ?_⟩
  first | exact (Below.refl _ _).alloc (Nat.le_refl _) _ | exact ((Below.refl _ _).alloc (Nat.le_refl _) _).setCell (Nat.le_refl _) _ | exact ((((((Below.refl _ _).alloc (Nat.le_refl _) _).setCell (Nat.le_refl _) _).setCell (Nat.le_refl _) _).setCell (Nat.le_refl _) _)).setCell (Nat.le_refl _) _
set_option maxHeartbeats 400000 in
theorem ruleOf_8 (w : World) : Calls Tryz.prog 38 #[.int .i64 8] w fun r w' => r = .returned (.tuple #[.agg #[.string ⟨#[97, 110, 100]⟩, .int .i64 2, .int .i64 (0), .int .i64 0], .bool true]) ∧ Below w.heap.size w w' := by
  go_enter Tryz.func38, Tryz.ntmps38
  go_wp2_with fail
  refine bodyPost_ret (v := .tuple #[.agg #[.string ⟨#[97, 110, 100]⟩, .int .i64 2, .int .i64 (0), .int .i64 0], .bool true]) (by simp [results, Tryz.results38, go_sem]) rfl ⟨rfl, ?_⟩
  first | exact (Below.refl _ _).alloc (Nat.le_refl _) _ | exact ((Below.refl _ _).alloc (Nat.le_refl _) _).setCell (Nat.le_refl _) _ | exact ((((((Below.refl _ _).alloc (Nat.le_refl _) _).setCell (Nat.le_refl _) _).setCell (Nat.le_refl _) _).setCell (Nat.le_refl _) _)).setCell (Nat.le_refl _) _
set_option maxHeartbeats 400000 in
theorem ruleOf_9 (w : World) : Calls Tryz.prog 38 #[.int .i64 9] w fun r w' => r = .returned (.tuple #[.agg #[.string ⟨#[111, 114]⟩, .int .i64 2, .int .i64 (0), .int .i64 0], .bool true]) ∧ Below w.heap.size w w' := by
  go_enter Tryz.func38, Tryz.ntmps38
  go_wp2_with fail
  refine bodyPost_ret (v := .tuple #[.agg #[.string ⟨#[111, 114]⟩, .int .i64 2, .int .i64 (0), .int .i64 0], .bool true]) (by simp [results, Tryz.results38, go_sem]) rfl ⟨rfl, ?_⟩
  first | exact (Below.refl _ _).alloc (Nat.le_refl _) _ | exact ((Below.refl _ _).alloc (Nat.le_refl _) _).setCell (Nat.le_refl _) _ | exact ((((((Below.refl _ _).alloc (Nat.le_refl _) _).setCell (Nat.le_refl _) _).setCell (Nat.le_refl _) _).setCell (Nat.le_refl _) _)).setCell (Nat.le_refl _) _
set_option maxHeartbeats 400000 in
theorem ruleOf_10 (w : World) : Calls Tryz.prog 38 #[.int .i64 10] w fun r w' => r = .returned (.tuple #[.agg #[.string ⟨#[112, 114, 101, 118]⟩, .int .i64 1, .int .i64 (0), .int .i64 0], .bool true]) ∧ Below w.heap.size w w' := by
  go_enter Tryz.func38, Tryz.ntmps38
  go_wp2_with fail
  refine bodyPost_ret (v := .tuple #[.agg #[.string ⟨#[112, 114, 101, 118]⟩, .int .i64 1, .int .i64 (0), .int .i64 0], .bool true]) (by simp [results, Tryz.results38, go_sem]) rfl ⟨rfl, ?_⟩
  first | exact (Below.refl _ _).alloc (Nat.le_refl _) _ | exact ((Below.refl _ _).alloc (Nat.le_refl _) _).setCell (Nat.le_refl _) _ | exact ((((((Below.refl _ _).alloc (Nat.le_refl _) _).setCell (Nat.le_refl _) _).setCell (Nat.le_refl _) _).setCell (Nat.le_refl _) _)).setCell (Nat.le_refl _) _
set_option maxHeartbeats 400000 in
theorem ruleOf_11 (w : World) : Calls Tryz.prog 38 #[.int .i64 11] w fun r w' => r = .returned (.tuple #[.agg #[.string ⟨#[111, 110, 99, 101]⟩, .int .i64 1, .int .i64 (0), .int .i64 0], .bool true]) ∧ Below w.heap.size w w' := by
  go_enter Tryz.func38, Tryz.ntmps38
  go_wp2_with fail
  refine bodyPost_ret (v := .tuple #[.agg #[.string ⟨#[111, 110, 99, 101]⟩, .int .i64 1, .int .i64 (0), .int .i64 0], .bool true]) (by simp [results, Tryz.results38, go_sem]) rfl ⟨rfl, ?_⟩
  first | exact (Below.refl _ _).alloc (Nat.le_refl _) _ | exact ((Below.refl _ _).alloc (Nat.le_refl _) _).setCell (Nat.le_refl _) _ | exact ((((((Below.refl _ _).alloc (Nat.le_refl _) _).setCell (Nat.le_refl _) _).setCell (Nat.le_refl _) _).setCell (Nat.le_refl _) _)).setCell (Nat.le_refl _) _
set_option maxHeartbeats 400000 in
theorem ruleOf_12 (w : World) : Calls Tryz.prog 38 #[.int .i64 12] w fun r w' => r = .returned (.tuple #[.agg #[.string ⟨#[97, 108, 108]⟩, .int .i64 1, .int .i64 (0), .int .i64 0], .bool true]) ∧ Below w.heap.size w w' := by
  go_enter Tryz.func38, Tryz.ntmps38
  go_wp2_with fail
  refine bodyPost_ret (v := .tuple #[.agg #[.string ⟨#[97, 108, 108]⟩, .int .i64 1, .int .i64 (0), .int .i64 0], .bool true]) (by simp [results, Tryz.results38, go_sem]) rfl ⟨rfl, ?_⟩
  first | exact (Below.refl _ _).alloc (Nat.le_refl _) _ | exact ((Below.refl _ _).alloc (Nat.le_refl _) _).setCell (Nat.le_refl _) _ | exact ((((((Below.refl _ _).alloc (Nat.le_refl _) _).setCell (Nat.le_refl _) _).setCell (Nat.le_refl _) _).setCell (Nat.le_refl _) _)).setCell (Nat.le_refl _) _
set_option maxHeartbeats 400000 in
theorem ruleOf_13 (w : World) : Calls Tryz.prog 38 #[.int .i64 13] w fun r w' => r = .returned (.tuple #[.agg #[.string ⟨#[115, 105, 110, 99, 101]⟩, .int .i64 2, .int .i64 (0), .int .i64 0], .bool true]) ∧ Below w.heap.size w w' := by
  go_enter Tryz.func38, Tryz.ntmps38
  go_wp2_with fail
  refine bodyPost_ret (v := .tuple #[.agg #[.string ⟨#[115, 105, 110, 99, 101]⟩, .int .i64 2, .int .i64 (0), .int .i64 0], .bool true]) (by simp [results, Tryz.results38, go_sem]) rfl ⟨rfl, ?_⟩
  first | exact (Below.refl _ _).alloc (Nat.le_refl _) _ | exact ((Below.refl _ _).alloc (Nat.le_refl _) _).setCell (Nat.le_refl _) _ | exact ((((((Below.refl _ _).alloc (Nat.le_refl _) _).setCell (Nat.le_refl _) _).setCell (Nat.le_refl _) _).setCell (Nat.le_refl _) _)).setCell (Nat.le_refl _) _
set_option maxHeartbeats 400000 in
theorem ruleOf_14 (w : World) : Calls Tryz.prog 38 #[.int .i64 14] w fun r w' => r = .returned (.tuple #[.agg #[.string ⟨#[115, 111, 111, 110]⟩, .int .i64 1, .int .i64 (0), .int .i64 4000], .bool true]) ∧ Below w.heap.size w w' := by
  go_enter Tryz.func38, Tryz.ntmps38
  go_wp2_with fail
  refine bodyPost_ret (v := .tuple #[.agg #[.string ⟨#[115, 111, 111, 110]⟩, .int .i64 1, .int .i64 (0), .int .i64 4000], .bool true]) (by simp [results, Tryz.results38, go_sem]) rfl ⟨rfl, ?_⟩
  first | exact (Below.refl _ _).alloc (Nat.le_refl _) _ | exact ((Below.refl _ _).alloc (Nat.le_refl _) _).setCell (Nat.le_refl _) _ | exact ((((((Below.refl _ _).alloc (Nat.le_refl _) _).setCell (Nat.le_refl _) _).setCell (Nat.le_refl _) _).setCell (Nat.le_refl _) _)).setCell (Nat.le_refl _) _
set_option maxHeartbeats 1600000 in
theorem ruleOf_no (k : Int) (w : World) (h : Qk.isK k = false) : Calls Tryz.prog 38 #[.int .i64 k] w fun r w' => r = .returned (.tuple #[.agg #[.string ⟨#[]⟩, .int .i64 0, .int .i64 0, .int .i64 0], .bool false]) ∧ Below w.heap.size w w' := by
  have hk : k < 1 ∨ 14 < k := by simp only [Qk.isK, decide_eq_false_iff_not] at h; omega
  clear h
  have h1 : (k == 1) = false := by simp; omega
  have h2 : (k == 2) = false := by simp; omega
  have h3 : (k == 3) = false := by simp; omega
  have h4 : (k == 4) = false := by simp; omega
  have h5 : (k == 5) = false := by simp; omega
  have h6 : (k == 6) = false := by simp; omega
  have h7 : (k == 7) = false := by simp; omega
  have h8 : (k == 8) = false := by simp; omega
  have h9 : (k == 9) = false := by simp; omega
  have h10 : (k == 10) = false := by simp; omega
  have h11 : (k == 11) = false := by simp; omega
  have h12 : (k == 12) = false := by simp; omega
  have h13 : (k == 13) = false := by simp; omega
  have h14 : (k == 14) = false := by simp; omega
  clear hk
  go_enter Tryz.func38, Tryz.ntmps38
  go_wp2_with fail
  refine bodyPost_ret (v := .tuple #[.agg #[.string ⟨#[]⟩, .int .i64 0, .int .i64 0, .int .i64 0], .bool false]) (by simp [results, Tryz.results38, go_sem]) rfl ⟨rfl, ?_⟩
  first | exact (Below.refl _ _).alloc (Nat.le_refl _) _ | exact ((Below.refl _ _).alloc (Nat.le_refl _) _).setCell (Nat.le_refl _) _ | exact ((((((Below.refl _ _).alloc (Nat.le_refl _) _).setCell (Nat.le_refl _) _).setCell (Nat.le_refl _) _).setCell (Nat.le_refl _) _)).setCell (Nat.le_refl _) _

theorem Qk.kinds {k : Int} (h : Qk.isK k = true) : k = 1 ∨ k = 2 ∨ k = 3 ∨ k = 4 ∨ k = 5 ∨ k = 6 ∨ k = 7 ∨ k = 8 ∨ k = 9 ∨ k = 10 ∨ k = 11 ∨ k = 12 ∨ k = 13 ∨ k = 14 := by
  simp only [Qk.isK, decide_eq_true_eq] at h; omega
theorem Qk.no_kind {k : Int} (h : Qk.isK k = false) : Qk.word k = ⟨#[]⟩ ∧ Qk.argsI k = 0 ∧ Qk.least k = 0 ∧ Qk.most k = 0 := by
  refine ⟨?_, by simp [Qk.argsI, h], ?_, ?_⟩
  · simp only [Qk.isK, decide_eq_false_iff_not] at h
    unfold Qk.word
    split <;> first | omega | rfl
  · simp only [Qk.isK, decide_eq_false_iff_not] at h
    unfold Qk.least
    rw [if_neg (by omega), if_neg (by omega)]
  · simp only [Qk.isK, decide_eq_false_iff_not] at h
    unfold Qk.most
    rw [if_neg (by omega), if_neg (by omega)]

theorem ruleOf_any (k : Int) (w : World) : Calls Tryz.prog 38 #[.int .i64 k] w fun r w' => r = .returned (.tuple #[.agg #[.string (Qk.word k), .int .i64 (Qk.argsI k), .int .i64 (Qk.least k), .int .i64 (Qk.most k)], .bool (Qk.isK k)]) ∧ Below w.heap.size w w' := by
  cases h : Qk.isK k
  · obtain ⟨h1, h2, h3, h4⟩ := Qk.no_kind h
    rw [h1, h2, h3, h4]
    exact ruleOf_no k w h
  · rcases Qk.kinds h with rfl | rfl | rfl | rfl | rfl | rfl | rfl | rfl | rfl | rfl | rfl | rfl | rfl | rfl
    · exact ruleOf_1 w
    · exact ruleOf_2 w
    · exact ruleOf_3 w
    · exact ruleOf_4 w
    · exact ruleOf_5 w
    · exact ruleOf_6 w
    · exact ruleOf_7 w
    · exact ruleOf_8 w
    · exact ruleOf_9 w
    · exact ruleOf_10 w
    · exact ruleOf_11 w
    · exact ruleOf_12 w
    · exact ruleOf_13 w
    · exact ruleOf_14 w
end Go.Proofs.YtfhlnelgnnkeoaaGreatDoor
