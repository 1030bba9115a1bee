/-
  AskText of the document, for every query that passes Check. By the verifier.
-/
import Derived.Test.YtgibipidokkjbaaGreatDoorQTextOf
import Derived.Test.YtgibipidokkjbaaGreatDoorQRef
namespace Go.Proofs.YtgibipidokkjbaaGreatDoor
open Go.RowKit
set_option linter.unusedVariables false

set_option maxRecDepth 100000 in
set_option maxHeartbeats 1600000 in
theorem askWord_any (k : Int) (hk : Qk.isK k = true) (w : World) :
    Calls Tryz.prog 24 #[.int .i64 k] w fun r w' => r = .returned (.string (Qk.word k)) ∧ Below w.heap.size w w' := by
  rcases Qk.kinds hk with rfl | rfl | rfl | rfl | rfl | rfl | rfl | rfl | rfl | rfl | rfl | rfl | rfl | rfl
  all_goals
    go_enter Tryz.func24, Tryz.ntmps24
    go_wp2_with fail
    go_ret
    exact ⟨rfl, (Below.refl _ _).alloc (Nat.le_refl _) _⟩
theorem Qk.any_eq : (⟨#[32]⟩ ++ ⟨#[97, 110, 121]⟩ : ByteArray) = ⟨#[32, 97, 110, 121]⟩ := by decide

set_option maxRecDepth 100000 in
set_option maxHeartbeats 1600000 in
theorem ask_1any (n : Nat) (m : Int) (ad : Option Addr) (cap : Nat) (w : World) (hs : Qk.RS w (Qk.RA w n) ⟨ad, 0, cap⟩ []) (hw : Qk.wrong (n + 1) ((1, m), []) = 0) (hp : Qk.parts (n + 1) ((1, m), []) ≤ 15) (hmm : m = -1)
    (ih : ∀ (e : Qk.E) (x : Qk.AT n) (W : World), Qk.RA W n e x → Qk.wrong n x = 0 → Qk.parts n x ≤ 15 → Calls Tryz.prog 10 #[e.val] W fun r w' => r = .returned (.string (Qk.text n x)) ∧ Below W.heap.size W w') :
    Calls Tryz.prog 10 #[.agg #[.int .i64 1, .int .i64 m, .slice ad 0 cap]] w fun r w' => r = .returned (.string (Qk.text (n + 1) ((1, m), []))) ∧ Below w.heap.size w w' := by
  obtain ⟨_, _, hb, hsub⟩ := Qk.isK_parts hw
  have HW := hide (fun (W : World) => askWord_any 1 rfl W)
  have HAR := hide (fun (W : World) => show Calls Tryz.prog 25 #[.int .i64 1] W fun r w' => r = .returned (.int .i64 0) ∧ w' = W from AskArgs_any 1 W)
  have sW := Qk.word_size 1
  have sH := Qk.headT_size 1 m (Qk.bound hb).1 (Qk.bound hb).2
  subst hmm
  have HH := hide (show Qk.headT 1 (-1) = Qk.word 1 ++ ⟨#[32, 97, 110, 121]⟩ by unfold Qk.headT; rw [if_pos (by decide), Qk.numT, if_pos (by decide), Qk.any_eq])
  have HE := hide (show Qk.text (n + 1) ((1, (-1)), []) = Qk.headT 1 (-1) from rfl)
  clear hw hp ih hb hsub hs
  generalize Qk.text (n + 1) ((1, (-1)), []) = T at *
  go_enter Tryz.func10, Tryz.ntmps10
  go_wp2_with fail
  refine ((unhide HW) _).mono ?_
  rintro r w1 ⟨rfl, hb1⟩
  have q0 : w1.cell? ⟨w.heap.size, 0, none⟩ = some (.int .i64 1) := (hb1.cell (p := ⟨w.heap.size, 0, none⟩) (by simp)).trans (by simp)
  have q1 : w1.cell? ⟨w.heap.size, 1, none⟩ = some (.int .i64 (-1)) := (hb1.cell (p := ⟨w.heap.size, 1, none⟩) (by simp)).trans (by simp)
  have q2 : w1.cell? ⟨w.heap.size, 2, none⟩ = some (.slice ad 0 cap) := (hb1.cell (p := ⟨w.heap.size, 2, none⟩) (by simp)).trans (by simp)
  have HB1 := hide (below_two hb1)
  have hs1 : w.heap.size < w1.heap.size := by have := hb1.size; simp at this; omega
  clear hb1
  generalize Qk.word 1 = WD at *
  go_wp2_with fail
  refine ((unhide HAR) _).mono ?_
  rintro r w2 ⟨rfl, hw2⟩
  obtain rfl : w1 = w2 := hw2.symm
  clear hw2
  go_wp2_with fail
  refine ((unhide HAR) _).mono ?_
  rintro r w4 ⟨rfl, hw4⟩
  obtain rfl : w1 = w4 := hw4.symm
  clear hw4
  go_wp2_with fail
  go_ret
  exact ⟨by rw [unhide HE, unhide HH]; rfl, unhide HB1⟩

set_option maxRecDepth 100000 in
set_option maxHeartbeats 1600000 in
theorem ask_1dig (n : Nat) (m : Int) (ad : Option Addr) (cap : Nat) (w : World) (hs : Qk.RS w (Qk.RA w n) ⟨ad, 0, cap⟩ []) (hw : Qk.wrong (n + 1) ((1, m), []) = 0) (hp : Qk.parts (n + 1) ((1, m), []) ≤ 15) (hmm : (m == -1) = false)
    (ih : ∀ (e : Qk.E) (x : Qk.AT n) (W : World), Qk.RA W n e x → Qk.wrong n x = 0 → Qk.parts n x ≤ 15 → Calls Tryz.prog 10 #[e.val] W fun r w' => r = .returned (.string (Qk.text n x)) ∧ Below W.heap.size W w') :
    Calls Tryz.prog 10 #[.agg #[.int .i64 1, .int .i64 m, .slice ad 0 cap]] w fun r w' => r = .returned (.string (Qk.text (n + 1) ((1, m), []))) ∧ Below w.heap.size w w' := by
  obtain ⟨_, _, hb, hsub⟩ := Qk.isK_parts hw
  have HW := hide (fun (W : World) => askWord_any 1 rfl W)
  have HAR := hide (fun (W : World) => show Calls Tryz.prog 25 #[.int .i64 1] W fun r w' => r = .returned (.int .i64 0) ∧ w' = W from AskArgs_any 1 W)
  have sW := Qk.word_size 1
  have sH := Qk.headT_size 1 m (Qk.bound hb).1 (Qk.bound hb).2
  have HD := hide (fun (W : World) => Digits_any m (by have := (Qk.bound hb).1; omega) (by have := (Qk.bound hb).2; omega) W)
  have sN := Qd.num_size m (by have := (Qk.bound hb).1; omega) (by have := (Qk.bound hb).2; omega)
  have HH := hide (show Qk.headT 1 m = Qk.word 1 ++ (⟨#[32]⟩ ++ Qd.num m) by unfold Qk.headT; rw [if_pos (by decide), Qk.numT, if_neg (fun h => by rw [h.1] at hmm; cases hmm)])
  have HE := hide (show Qk.text (n + 1) ((1, m), []) = Qk.headT 1 m from rfl)
  clear hw hp ih hb hsub hs
  generalize Qk.text (n + 1) ((1, m), []) = T at *
  go_enter Tryz.func10, Tryz.ntmps10
  go_wp2_with fail
  refine ((unhide HW) _).mono ?_
  rintro r w1 ⟨rfl, hb1⟩
  have q0 : w1.cell? ⟨w.heap.size, 0, none⟩ = some (.int .i64 1) := (hb1.cell (p := ⟨w.heap.size, 0, none⟩) (by simp)).trans (by simp)
  have q1 : w1.cell? ⟨w.heap.size, 1, none⟩ = some (.int .i64 m) := (hb1.cell (p := ⟨w.heap.size, 1, none⟩) (by simp)).trans (by simp)
  have q2 : w1.cell? ⟨w.heap.size, 2, none⟩ = some (.slice ad 0 cap) := (hb1.cell (p := ⟨w.heap.size, 2, none⟩) (by simp)).trans (by simp)
  have HB1 := hide (below_two hb1)
  have hs1 : w.heap.size < w1.heap.size := by have := hb1.size; simp at this; omega
  clear hb1
  generalize Qk.word 1 = WD at *
  go_wp2_with fail
  refine ((unhide HAR) _).mono ?_
  rintro r w2 ⟨rfl, hw2⟩
  obtain rfl : w1 = w2 := hw2.symm
  clear hw2
  go_wp2_with fail
  refine ((unhide HD) _).mono ?_
  rintro r w3 ⟨rfl, hb3⟩
  replace q0 := (hb3.cell (p := ⟨w.heap.size, 0, none⟩) hs1).trans q0
  replace q2 := (hb3.cell (p := ⟨w.heap.size, 2, none⟩) hs1).trans q2
  have HB3 := hide ((unhide HB1).trans (hb3.mono (unhide HB1).size))
  clear hb3 q1
  go_wp2_with fail
  refine ((unhide HAR) _).mono ?_
  rintro r w4 ⟨rfl, hw4⟩
  obtain rfl : w3 = w4 := hw4.symm
  clear hw4
  go_wp2_with fail
  go_ret
  exact ⟨by rw [unhide HE, unhide HH]; rfl, unhide HB3⟩

set_option maxRecDepth 100000 in
set_option maxHeartbeats 1600000 in
theorem ask_2any (n : Nat) (m : Int) (ad : Option Addr) (cap : Nat) (w : World) (hs : Qk.RS w (Qk.RA w n) ⟨ad, 0, cap⟩ []) (hw : Qk.wrong (n + 1) ((2, m), []) = 0) (hp : Qk.parts (n + 1) ((2, m), []) ≤ 15) (hmm : m = -1)
    (ih : ∀ (e : Qk.E) (x : Qk.AT n) (W : World), Qk.RA W n e x → Qk.wrong n x = 0 → Qk.parts n x ≤ 15 → Calls Tryz.prog 10 #[e.val] W fun r w' => r = .returned (.string (Qk.text n x)) ∧ Below W.heap.size W w') :
    Calls Tryz.prog 10 #[.agg #[.int .i64 2, .int .i64 m, .slice ad 0 cap]] w fun r w' => r = .returned (.string (Qk.text (n + 1) ((2, m), []))) ∧ Below w.heap.size w w' := by
  obtain ⟨_, _, hb, hsub⟩ := Qk.isK_parts hw
  have HW := hide (fun (W : World) => askWord_any 2 rfl W)
  have HAR := hide (fun (W : World) => show Calls Tryz.prog 25 #[.int .i64 2] W fun r w' => r = .returned (.int .i64 0) ∧ w' = W from AskArgs_any 2 W)
  have sW := Qk.word_size 2
  have sH := Qk.headT_size 2 m (Qk.bound hb).1 (Qk.bound hb).2
  subst hmm
  have HH := hide (show Qk.headT 2 (-1) = Qk.word 2 ++ ⟨#[32, 97, 110, 121]⟩ by unfold Qk.headT; rw [if_pos (by decide), Qk.numT, if_pos (by decide), Qk.any_eq])
  have HE := hide (show Qk.text (n + 1) ((2, (-1)), []) = Qk.headT 2 (-1) from rfl)
  clear hw hp ih hb hsub hs
  generalize Qk.text (n + 1) ((2, (-1)), []) = T at *
  go_enter Tryz.func10, Tryz.ntmps10
  go_wp2_with fail
  refine ((unhide HW) _).mono ?_
  rintro r w1 ⟨rfl, hb1⟩
  have q0 : w1.cell? ⟨w.heap.size, 0, none⟩ = some (.int .i64 2) := (hb1.cell (p := ⟨w.heap.size, 0, none⟩) (by simp)).trans (by simp)
  have q1 : w1.cell? ⟨w.heap.size, 1, none⟩ = some (.int .i64 (-1)) := (hb1.cell (p := ⟨w.heap.size, 1, none⟩) (by simp)).trans (by simp)
  have q2 : w1.cell? ⟨w.heap.size, 2, none⟩ = some (.slice ad 0 cap) := (hb1.cell (p := ⟨w.heap.size, 2, none⟩) (by simp)).trans (by simp)
  have HB1 := hide (below_two hb1)
  have hs1 : w.heap.size < w1.heap.size := by have := hb1.size; simp at this; omega
  clear hb1
  generalize Qk.word 2 = WD at *
  go_wp2_with fail
  refine ((unhide HAR) _).mono ?_
  rintro r w2 ⟨rfl, hw2⟩
  obtain rfl : w1 = w2 := hw2.symm
  clear hw2
  go_wp2_with fail
  refine ((unhide HAR) _).mono ?_
  rintro r w4 ⟨rfl, hw4⟩
  obtain rfl : w1 = w4 := hw4.symm
  clear hw4
  go_wp2_with fail
  go_ret
  exact ⟨by rw [unhide HE, unhide HH]; rfl, unhide HB1⟩

set_option maxRecDepth 100000 in
set_option maxHeartbeats 1600000 in
theorem ask_2dig (n : Nat) (m : Int) (ad : Option Addr) (cap : Nat) (w : World) (hs : Qk.RS w (Qk.RA w n) ⟨ad, 0, cap⟩ []) (hw : Qk.wrong (n + 1) ((2, m), []) = 0) (hp : Qk.parts (n + 1) ((2, m), []) ≤ 15) (hmm : (m == -1) = false)
    (ih : ∀ (e : Qk.E) (x : Qk.AT n) (W : World), Qk.RA W n e x → Qk.wrong n x = 0 → Qk.parts n x ≤ 15 → Calls Tryz.prog 10 #[e.val] W fun r w' => r = .returned (.string (Qk.text n x)) ∧ Below W.heap.size W w') :
    Calls Tryz.prog 10 #[.agg #[.int .i64 2, .int .i64 m, .slice ad 0 cap]] w fun r w' => r = .returned (.string (Qk.text (n + 1) ((2, m), []))) ∧ Below w.heap.size w w' := by
  obtain ⟨_, _, hb, hsub⟩ := Qk.isK_parts hw
  have HW := hide (fun (W : World) => askWord_any 2 rfl W)
  have HAR := hide (fun (W : World) => show Calls Tryz.prog 25 #[.int .i64 2] W fun r w' => r = .returned (.int .i64 0) ∧ w' = W from AskArgs_any 2 W)
  have sW := Qk.word_size 2
  have sH := Qk.headT_size 2 m (Qk.bound hb).1 (Qk.bound hb).2
  have HD := hide (fun (W : World) => Digits_any m (by have := (Qk.bound hb).1; omega) (by have := (Qk.bound hb).2; omega) W)
  have sN := Qd.num_size m (by have := (Qk.bound hb).1; omega) (by have := (Qk.bound hb).2; omega)
  have HH := hide (show Qk.headT 2 m = Qk.word 2 ++ (⟨#[32]⟩ ++ Qd.num m) by unfold Qk.headT; rw [if_pos (by decide), Qk.numT, if_neg (fun h => by rw [h.1] at hmm; cases hmm)])
  have HE := hide (show Qk.text (n + 1) ((2, m), []) = Qk.headT 2 m from rfl)
  clear hw hp ih hb hsub hs
  generalize Qk.text (n + 1) ((2, m), []) = T at *
  go_enter Tryz.func10, Tryz.ntmps10
  go_wp2_with fail
  refine ((unhide HW) _).mono ?_
  rintro r w1 ⟨rfl, hb1⟩
  have q0 : w1.cell? ⟨w.heap.size, 0, none⟩ = some (.int .i64 2) := (hb1.cell (p := ⟨w.heap.size, 0, none⟩) (by simp)).trans (by simp)
  have q1 : w1.cell? ⟨w.heap.size, 1, none⟩ = some (.int .i64 m) := (hb1.cell (p := ⟨w.heap.size, 1, none⟩) (by simp)).trans (by simp)
  have q2 : w1.cell? ⟨w.heap.size, 2, none⟩ = some (.slice ad 0 cap) := (hb1.cell (p := ⟨w.heap.size, 2, none⟩) (by simp)).trans (by simp)
  have HB1 := hide (below_two hb1)
  have hs1 : w.heap.size < w1.heap.size := by have := hb1.size; simp at this; omega
  clear hb1
  generalize Qk.word 2 = WD at *
  go_wp2_with fail
  refine ((unhide HAR) _).mono ?_
  rintro r w2 ⟨rfl, hw2⟩
  obtain rfl : w1 = w2 := hw2.symm
  clear hw2
  go_wp2_with fail
  refine ((unhide HD) _).mono ?_
  rintro r w3 ⟨rfl, hb3⟩
  replace q0 := (hb3.cell (p := ⟨w.heap.size, 0, none⟩) hs1).trans q0
  replace q2 := (hb3.cell (p := ⟨w.heap.size, 2, none⟩) hs1).trans q2
  have HB3 := hide ((unhide HB1).trans (hb3.mono (unhide HB1).size))
  clear hb3 q1
  go_wp2_with fail
  refine ((unhide HAR) _).mono ?_
  rintro r w4 ⟨rfl, hw4⟩
  obtain rfl : w3 = w4 := hw4.symm
  clear hw4
  go_wp2_with fail
  go_ret
  exact ⟨by rw [unhide HE, unhide HH]; rfl, unhide HB3⟩

set_option maxRecDepth 100000 in
set_option maxHeartbeats 1600000 in
theorem ask_3any (n : Nat) (m : Int) (ad : Option Addr) (cap : Nat) (w : World) (hs : Qk.RS w (Qk.RA w n) ⟨ad, 0, cap⟩ []) (hw : Qk.wrong (n + 1) ((3, m), []) = 0) (hp : Qk.parts (n + 1) ((3, m), []) ≤ 15) (hmm : m = -1)
    (ih : ∀ (e : Qk.E) (x : Qk.AT n) (W : World), Qk.RA W n e x → Qk.wrong n x = 0 → Qk.parts n x ≤ 15 → Calls Tryz.prog 10 #[e.val] W fun r w' => r = .returned (.string (Qk.text n x)) ∧ Below W.heap.size W w') :
    Calls Tryz.prog 10 #[.agg #[.int .i64 3, .int .i64 m, .slice ad 0 cap]] w fun r w' => r = .returned (.string (Qk.text (n + 1) ((3, m), []))) ∧ Below w.heap.size w w' := by
  obtain ⟨_, _, hb, hsub⟩ := Qk.isK_parts hw
  have HW := hide (fun (W : World) => askWord_any 3 rfl W)
  have HAR := hide (fun (W : World) => show Calls Tryz.prog 25 #[.int .i64 3] W fun r w' => r = .returned (.int .i64 0) ∧ w' = W from AskArgs_any 3 W)
  have sW := Qk.word_size 3
  have sH := Qk.headT_size 3 m (Qk.bound hb).1 (Qk.bound hb).2
  subst hmm
  have HH := hide (show Qk.headT 3 (-1) = Qk.word 3 ++ ⟨#[32, 97, 110, 121]⟩ by unfold Qk.headT; rw [if_pos (by decide), Qk.numT, if_pos (by decide), Qk.any_eq])
  have HE := hide (show Qk.text (n + 1) ((3, (-1)), []) = Qk.headT 3 (-1) from rfl)
  clear hw hp ih hb hsub hs
  generalize Qk.text (n + 1) ((3, (-1)), []) = T at *
  go_enter Tryz.func10, Tryz.ntmps10
  go_wp2_with fail
  refine ((unhide HW) _).mono ?_
  rintro r w1 ⟨rfl, hb1⟩
  have q0 : w1.cell? ⟨w.heap.size, 0, none⟩ = some (.int .i64 3) := (hb1.cell (p := ⟨w.heap.size, 0, none⟩) (by simp)).trans (by simp)
  have q1 : w1.cell? ⟨w.heap.size, 1, none⟩ = some (.int .i64 (-1)) := (hb1.cell (p := ⟨w.heap.size, 1, none⟩) (by simp)).trans (by simp)
  have q2 : w1.cell? ⟨w.heap.size, 2, none⟩ = some (.slice ad 0 cap) := (hb1.cell (p := ⟨w.heap.size, 2, none⟩) (by simp)).trans (by simp)
  have HB1 := hide (below_two hb1)
  have hs1 : w.heap.size < w1.heap.size := by have := hb1.size; simp at this; omega
  clear hb1
  generalize Qk.word 3 = WD at *
  go_wp2_with fail
  refine ((unhide HAR) _).mono ?_
  rintro r w2 ⟨rfl, hw2⟩
  obtain rfl : w1 = w2 := hw2.symm
  clear hw2
  go_wp2_with fail
  refine ((unhide HAR) _).mono ?_
  rintro r w4 ⟨rfl, hw4⟩
  obtain rfl : w1 = w4 := hw4.symm
  clear hw4
  go_wp2_with fail
  go_ret
  exact ⟨by rw [unhide HE, unhide HH]; rfl, unhide HB1⟩

set_option maxRecDepth 100000 in
set_option maxHeartbeats 1600000 in
theorem ask_3dig (n : Nat) (m : Int) (ad : Option Addr) (cap : Nat) (w : World) (hs : Qk.RS w (Qk.RA w n) ⟨ad, 0, cap⟩ []) (hw : Qk.wrong (n + 1) ((3, m), []) = 0) (hp : Qk.parts (n + 1) ((3, m), []) ≤ 15) (hmm : (m == -1) = false)
    (ih : ∀ (e : Qk.E) (x : Qk.AT n) (W : World), Qk.RA W n e x → Qk.wrong n x = 0 → Qk.parts n x ≤ 15 → Calls Tryz.prog 10 #[e.val] W fun r w' => r = .returned (.string (Qk.text n x)) ∧ Below W.heap.size W w') :
    Calls Tryz.prog 10 #[.agg #[.int .i64 3, .int .i64 m, .slice ad 0 cap]] w fun r w' => r = .returned (.string (Qk.text (n + 1) ((3, m), []))) ∧ Below w.heap.size w w' := by
  obtain ⟨_, _, hb, hsub⟩ := Qk.isK_parts hw
  have HW := hide (fun (W : World) => askWord_any 3 rfl W)
  have HAR := hide (fun (W : World) => show Calls Tryz.prog 25 #[.int .i64 3] W fun r w' => r = .returned (.int .i64 0) ∧ w' = W from AskArgs_any 3 W)
  have sW := Qk.word_size 3
  have sH := Qk.headT_size 3 m (Qk.bound hb).1 (Qk.bound hb).2
  have HD := hide (fun (W : World) => Digits_any m (by have := (Qk.bound hb).1; omega) (by have := (Qk.bound hb).2; omega) W)
  have sN := Qd.num_size m (by have := (Qk.bound hb).1; omega) (by have := (Qk.bound hb).2; omega)
  have HH := hide (show Qk.headT 3 m = Qk.word 3 ++ (⟨#[32]⟩ ++ Qd.num m) by unfold Qk.headT; rw [if_pos (by decide), Qk.numT, if_neg (fun h => by rw [h.1] at hmm; cases hmm)])
  have HE := hide (show Qk.text (n + 1) ((3, m), []) = Qk.headT 3 m from rfl)
  clear hw hp ih hb hsub hs
  generalize Qk.text (n + 1) ((3, m), []) = T at *
  go_enter Tryz.func10, Tryz.ntmps10
  go_wp2_with fail
  refine ((unhide HW) _).mono ?_
  rintro r w1 ⟨rfl, hb1⟩
  have q0 : w1.cell? ⟨w.heap.size, 0, none⟩ = some (.int .i64 3) := (hb1.cell (p := ⟨w.heap.size, 0, none⟩) (by simp)).trans (by simp)
  have q1 : w1.cell? ⟨w.heap.size, 1, none⟩ = some (.int .i64 m) := (hb1.cell (p := ⟨w.heap.size, 1, none⟩) (by simp)).trans (by simp)
  have q2 : w1.cell? ⟨w.heap.size, 2, none⟩ = some (.slice ad 0 cap) := (hb1.cell (p := ⟨w.heap.size, 2, none⟩) (by simp)).trans (by simp)
  have HB1 := hide (below_two hb1)
  have hs1 : w.heap.size < w1.heap.size := by have := hb1.size; simp at this; omega
  clear hb1
  generalize Qk.word 3 = WD at *
  go_wp2_with fail
  refine ((unhide HAR) _).mono ?_
  rintro r w2 ⟨rfl, hw2⟩
  obtain rfl : w1 = w2 := hw2.symm
  clear hw2
  go_wp2_with fail
  refine ((unhide HD) _).mono ?_
  rintro r w3 ⟨rfl, hb3⟩
  replace q0 := (hb3.cell (p := ⟨w.heap.size, 0, none⟩) hs1).trans q0
  replace q2 := (hb3.cell (p := ⟨w.heap.size, 2, none⟩) hs1).trans q2
  have HB3 := hide ((unhide HB1).trans (hb3.mono (unhide HB1).size))
  clear hb3 q1
  go_wp2_with fail
  refine ((unhide HAR) _).mono ?_
  rintro r w4 ⟨rfl, hw4⟩
  obtain rfl : w3 = w4 := hw4.symm
  clear hw4
  go_wp2_with fail
  go_ret
  exact ⟨by rw [unhide HE, unhide HH]; rfl, unhide HB3⟩

set_option maxRecDepth 100000 in
set_option maxHeartbeats 1600000 in
theorem ask_4 (n : Nat) (m : Int) (ad : Option Addr) (cap : Nat) (w : World) (hs : Qk.RS w (Qk.RA w n) ⟨ad, 0, cap⟩ []) (hw : Qk.wrong (n + 1) ((4, m), []) = 0) (hp : Qk.parts (n + 1) ((4, m), []) ≤ 15)
    (ih : ∀ (e : Qk.E) (x : Qk.AT n) (W : World), Qk.RA W n e x → Qk.wrong n x = 0 → Qk.parts n x ≤ 15 → Calls Tryz.prog 10 #[e.val] W fun r w' => r = .returned (.string (Qk.text n x)) ∧ Below W.heap.size W w') :
    Calls Tryz.prog 10 #[.agg #[.int .i64 4, .int .i64 m, .slice ad 0 cap]] w fun r w' => r = .returned (.string (Qk.text (n + 1) ((4, m), []))) ∧ Below w.heap.size w w' := by
  obtain ⟨_, _, hb, hsub⟩ := Qk.isK_parts hw
  have HW := hide (fun (W : World) => askWord_any 4 rfl W)
  have HAR := hide (fun (W : World) => show Calls Tryz.prog 25 #[.int .i64 4] W fun r w' => r = .returned (.int .i64 0) ∧ w' = W from AskArgs_any 4 W)
  have sW := Qk.word_size 4
  have sH := Qk.headT_size 4 m (Qk.bound hb).1 (Qk.bound hb).2
  have HH := hide (show Qk.headT 4 m = Qk.word 4 by unfold Qk.headT; rw [if_neg (by decide)])
  have HE := hide (show Qk.text (n + 1) ((4, m), []) = Qk.headT 4 m from rfl)
  clear hw hp ih hb hsub hs
  generalize Qk.text (n + 1) ((4, m), []) = T at *
  go_enter Tryz.func10, Tryz.ntmps10
  go_wp2_with fail
  refine ((unhide HW) _).mono ?_
  rintro r w1 ⟨rfl, hb1⟩
  have q0 : w1.cell? ⟨w.heap.size, 0, none⟩ = some (.int .i64 4) := (hb1.cell (p := ⟨w.heap.size, 0, none⟩) (by simp)).trans (by simp)
  have q1 : w1.cell? ⟨w.heap.size, 1, none⟩ = some (.int .i64 m) := (hb1.cell (p := ⟨w.heap.size, 1, none⟩) (by simp)).trans (by simp)
  have q2 : w1.cell? ⟨w.heap.size, 2, none⟩ = some (.slice ad 0 cap) := (hb1.cell (p := ⟨w.heap.size, 2, none⟩) (by simp)).trans (by simp)
  have HB1 := hide (below_two hb1)
  have hs1 : w.heap.size < w1.heap.size := by have := hb1.size; simp at this; omega
  clear hb1
  generalize Qk.word 4 = WD at *
  go_wp2_with fail
  refine ((unhide HAR) _).mono ?_
  rintro r w2 ⟨rfl, hw2⟩
  obtain rfl : w1 = w2 := hw2.symm
  clear hw2
  go_wp2_with fail
  refine ((unhide HAR) _).mono ?_
  rintro r w4 ⟨rfl, hw4⟩
  obtain rfl : w1 = w4 := hw4.symm
  clear hw4
  go_wp2_with fail
  go_ret
  exact ⟨by rw [unhide HE, unhide HH]; rfl, unhide HB1⟩

set_option maxRecDepth 100000 in
set_option maxHeartbeats 1600000 in
theorem ask_5 (n : Nat) (m : Int) (ad : Option Addr) (cap : Nat) (w : World) (hs : Qk.RS w (Qk.RA w n) ⟨ad, 0, cap⟩ []) (hw : Qk.wrong (n + 1) ((5, m), []) = 0) (hp : Qk.parts (n + 1) ((5, m), []) ≤ 15)
    (ih : ∀ (e : Qk.E) (x : Qk.AT n) (W : World), Qk.RA W n e x → Qk.wrong n x = 0 → Qk.parts n x ≤ 15 → Calls Tryz.prog 10 #[e.val] W fun r w' => r = .returned (.string (Qk.text n x)) ∧ Below W.heap.size W w') :
    Calls Tryz.prog 10 #[.agg #[.int .i64 5, .int .i64 m, .slice ad 0 cap]] w fun r w' => r = .returned (.string (Qk.text (n + 1) ((5, m), []))) ∧ Below w.heap.size w w' := by
  obtain ⟨_, _, hb, hsub⟩ := Qk.isK_parts hw
  have HW := hide (fun (W : World) => askWord_any 5 rfl W)
  have HAR := hide (fun (W : World) => show Calls Tryz.prog 25 #[.int .i64 5] W fun r w' => r = .returned (.int .i64 0) ∧ w' = W from AskArgs_any 5 W)
  have sW := Qk.word_size 5
  have sH := Qk.headT_size 5 m (Qk.bound hb).1 (Qk.bound hb).2
  have HD := hide (fun (W : World) => Digits_any m (by have := (Qk.bound hb).1; omega) (by have := (Qk.bound hb).2; omega) W)
  have sN := Qd.num_size m (by have := (Qk.bound hb).1; omega) (by have := (Qk.bound hb).2; omega)
  have HH := hide (show Qk.headT 5 m = Qk.word 5 ++ (⟨#[32]⟩ ++ Qd.num m) by unfold Qk.headT; rw [if_pos (by decide), Qk.numT, if_neg (fun h => absurd h.2 (by decide))])
  have HE := hide (show Qk.text (n + 1) ((5, m), []) = Qk.headT 5 m from rfl)
  clear hw hp ih hb hsub hs
  generalize Qk.text (n + 1) ((5, m), []) = T at *
  go_enter Tryz.func10, Tryz.ntmps10
  go_wp2_with fail
  refine ((unhide HW) _).mono ?_
  rintro r w1 ⟨rfl, hb1⟩
  have q0 : w1.cell? ⟨w.heap.size, 0, none⟩ = some (.int .i64 5) := (hb1.cell (p := ⟨w.heap.size, 0, none⟩) (by simp)).trans (by simp)
  have q1 : w1.cell? ⟨w.heap.size, 1, none⟩ = some (.int .i64 m) := (hb1.cell (p := ⟨w.heap.size, 1, none⟩) (by simp)).trans (by simp)
  have q2 : w1.cell? ⟨w.heap.size, 2, none⟩ = some (.slice ad 0 cap) := (hb1.cell (p := ⟨w.heap.size, 2, none⟩) (by simp)).trans (by simp)
  have HB1 := hide (below_two hb1)
  have hs1 : w.heap.size < w1.heap.size := by have := hb1.size; simp at this; omega
  clear hb1
  generalize Qk.word 5 = WD at *
  go_wp2_with fail
  refine ((unhide HAR) _).mono ?_
  rintro r w2 ⟨rfl, hw2⟩
  obtain rfl : w1 = w2 := hw2.symm
  clear hw2
  go_wp2_with fail
  refine ((unhide HD) _).mono ?_
  rintro r w3 ⟨rfl, hb3⟩
  replace q0 := (hb3.cell (p := ⟨w.heap.size, 0, none⟩) hs1).trans q0
  replace q2 := (hb3.cell (p := ⟨w.heap.size, 2, none⟩) hs1).trans q2
  have HB3 := hide ((unhide HB1).trans (hb3.mono (unhide HB1).size))
  clear hb3 q1
  go_wp2_with fail
  refine ((unhide HAR) _).mono ?_
  rintro r w4 ⟨rfl, hw4⟩
  obtain rfl : w3 = w4 := hw4.symm
  clear hw4
  go_wp2_with fail
  go_ret
  exact ⟨by rw [unhide HE, unhide HH]; rfl, unhide HB3⟩

set_option maxRecDepth 100000 in
set_option maxHeartbeats 1600000 in
theorem ask_6 (n : Nat) (m : Int) (ad : Option Addr) (cap : Nat) (w : World) (hs : Qk.RS w (Qk.RA w n) ⟨ad, 0, cap⟩ []) (hw : Qk.wrong (n + 1) ((6, m), []) = 0) (hp : Qk.parts (n + 1) ((6, m), []) ≤ 15)
    (ih : ∀ (e : Qk.E) (x : Qk.AT n) (W : World), Qk.RA W n e x → Qk.wrong n x = 0 → Qk.parts n x ≤ 15 → Calls Tryz.prog 10 #[e.val] W fun r w' => r = .returned (.string (Qk.text n x)) ∧ Below W.heap.size W w') :
    Calls Tryz.prog 10 #[.agg #[.int .i64 6, .int .i64 m, .slice ad 0 cap]] w fun r w' => r = .returned (.string (Qk.text (n + 1) ((6, m), []))) ∧ Below w.heap.size w w' := by
  obtain ⟨_, _, hb, hsub⟩ := Qk.isK_parts hw
  have HW := hide (fun (W : World) => askWord_any 6 rfl W)
  have HAR := hide (fun (W : World) => show Calls Tryz.prog 25 #[.int .i64 6] W fun r w' => r = .returned (.int .i64 0) ∧ w' = W from AskArgs_any 6 W)
  have sW := Qk.word_size 6
  have sH := Qk.headT_size 6 m (Qk.bound hb).1 (Qk.bound hb).2
  have HD := hide (fun (W : World) => Digits_any m (by have := (Qk.bound hb).1; omega) (by have := (Qk.bound hb).2; omega) W)
  have sN := Qd.num_size m (by have := (Qk.bound hb).1; omega) (by have := (Qk.bound hb).2; omega)
  have HH := hide (show Qk.headT 6 m = Qk.word 6 ++ (⟨#[32]⟩ ++ Qd.num m) by unfold Qk.headT; rw [if_pos (by decide), Qk.numT, if_neg (fun h => absurd h.2 (by decide))])
  have HE := hide (show Qk.text (n + 1) ((6, m), []) = Qk.headT 6 m from rfl)
  clear hw hp ih hb hsub hs
  generalize Qk.text (n + 1) ((6, m), []) = T at *
  go_enter Tryz.func10, Tryz.ntmps10
  go_wp2_with fail
  refine ((unhide HW) _).mono ?_
  rintro r w1 ⟨rfl, hb1⟩
  have q0 : w1.cell? ⟨w.heap.size, 0, none⟩ = some (.int .i64 6) := (hb1.cell (p := ⟨w.heap.size, 0, none⟩) (by simp)).trans (by simp)
  have q1 : w1.cell? ⟨w.heap.size, 1, none⟩ = some (.int .i64 m) := (hb1.cell (p := ⟨w.heap.size, 1, none⟩) (by simp)).trans (by simp)
  have q2 : w1.cell? ⟨w.heap.size, 2, none⟩ = some (.slice ad 0 cap) := (hb1.cell (p := ⟨w.heap.size, 2, none⟩) (by simp)).trans (by simp)
  have HB1 := hide (below_two hb1)
  have hs1 : w.heap.size < w1.heap.size := by have := hb1.size; simp at this; omega
  clear hb1
  generalize Qk.word 6 = WD at *
  go_wp2_with fail
  refine ((unhide HAR) _).mono ?_
  rintro r w2 ⟨rfl, hw2⟩
  obtain rfl : w1 = w2 := hw2.symm
  clear hw2
  go_wp2_with fail
  refine ((unhide HD) _).mono ?_
  rintro r w3 ⟨rfl, hb3⟩
  replace q0 := (hb3.cell (p := ⟨w.heap.size, 0, none⟩) hs1).trans q0
  replace q2 := (hb3.cell (p := ⟨w.heap.size, 2, none⟩) hs1).trans q2
  have HB3 := hide ((unhide HB1).trans (hb3.mono (unhide HB1).size))
  clear hb3 q1
  go_wp2_with fail
  refine ((unhide HAR) _).mono ?_
  rintro r w4 ⟨rfl, hw4⟩
  obtain rfl : w3 = w4 := hw4.symm
  clear hw4
  go_wp2_with fail
  go_ret
  exact ⟨by rw [unhide HE, unhide HH]; rfl, unhide HB3⟩

set_option maxRecDepth 100000 in
set_option maxHeartbeats 1600000 in
theorem ask_7 (n : Nat) (m : Int) (ad : Option Addr) (cap : Nat) (y : Qk.AT n) (w : World) (hs : Qk.RS w (Qk.RA w n) ⟨ad, 1, cap⟩ [y]) (hw : Qk.wrong (n + 1) ((7, m), [y]) = 0) (hp : Qk.parts (n + 1) ((7, m), [y]) ≤ 15)
    (ih : ∀ (e : Qk.E) (x : Qk.AT n) (W : World), Qk.RA W n e x → Qk.wrong n x = 0 → Qk.parts n x ≤ 15 → Calls Tryz.prog 10 #[e.val] W fun r w' => r = .returned (.string (Qk.text n x)) ∧ Below W.heap.size W w') :
    Calls Tryz.prog 10 #[.agg #[.int .i64 7, .int .i64 m, .slice ad 1 cap]] w fun r w' => r = .returned (.string (Qk.text (n + 1) ((7, m), [y]))) ∧ Below w.heap.size w w' := by
  obtain ⟨_, _, hb, hsub⟩ := Qk.isK_parts hw
  have HW := hide (fun (W : World) => askWord_any 7 rfl W)
  have HAR := hide (fun (W : World) => show Calls Tryz.prog 25 #[.int .i64 7] W fun r w' => r = .returned (.int .i64 1) ∧ w' = W from AskArgs_any 7 W)
  have sW := Qk.word_size 7
  have sH := Qk.headT_size 7 m (Qk.bound hb).1 (Qk.bound hb).2
  have HH := hide (show Qk.headT 7 m = Qk.word 7 by unfold Qk.headT; rw [if_neg (by decide)])
  have hpy : Qk.parts n y ≤ 15 := by
    have h1 : 1 + (Qk.parts n y + 0) ≤ 15 := hp
    omega
  have sy := Qk.text_size n y (hsub y (by simp))
  obtain ⟨by0, oy0, cy, hby, hlty, hLy, hAy⟩ := hs.at_ 0 y rfl
  obtain rfl : ad = some ⟨by0, oy0, none⟩ := hby
  have HLy := hide (And.intro hLy hlty)
  have HIy := hide (fun (W : World) (hb1 : Below w.heap.size w W) => show Calls Tryz.prog 10 #[.agg #[.int .i64 cy.k, .int .i64 cy.n, .slice cy.args.ad cy.args.len cy.args.cap]] W fun r w' => r = .returned (.string (Qk.text n y)) ∧ Below W.heap.size W w' from ih cy y W (Qk.RA.later hb1 (Nat.le_refl _) n hAy) (hsub y (by simp)) hpy)
  have HE := hide (show Qk.text (n + 1) ((7, m), [y]) = (Qk.headT 7 m ++ ⟨#[32]⟩) ++ Qk.text n y from rfl)
  have HE2 := hide (show Qk.text (n + 1) ((7, m), [y]) = Qk.word 7 ++ (⟨#[32]⟩ ++ Qk.text n y) from (unhide HE).trans (by rw [unhide HH]; exact ByteArray.append_assoc))
  clear hw hp ih hb hsub hs
  generalize Qk.text (n + 1) ((7, m), [y]) = T at *
  go_enter Tryz.func10, Tryz.ntmps10
  go_wp2_with fail
  refine ((unhide HW) _).mono ?_
  rintro r w1 ⟨rfl, hb1⟩
  have q0 : w1.cell? ⟨w.heap.size, 0, none⟩ = some (.int .i64 7) := (hb1.cell (p := ⟨w.heap.size, 0, none⟩) (by simp)).trans (by simp)
  have q1 : w1.cell? ⟨w.heap.size, 1, none⟩ = some (.int .i64 m) := (hb1.cell (p := ⟨w.heap.size, 1, none⟩) (by simp)).trans (by simp)
  have q2 : w1.cell? ⟨w.heap.size, 2, none⟩ = some (.slice (some ⟨by0, oy0, none⟩) 1 cap) := (hb1.cell (p := ⟨w.heap.size, 2, none⟩) (by simp)).trans (by simp)
  have HB1 := hide (below_two hb1)
  have hs1 : w.heap.size < w1.heap.size := by have := hb1.size; simp at this; omega
  clear hb1
  generalize Qk.word 7 = WD at *
  go_wp2_with fail
  refine ((unhide HAR) _).mono ?_
  rintro r w2 ⟨rfl, hw2⟩
  obtain rfl : w1 = w2 := hw2.symm
  clear hw2
  go_wp2_with fail
  refine ((unhide HAR) _).mono ?_
  rintro r w4 ⟨rfl, hw4⟩
  obtain rfl : w1 = w4 := hw4.symm
  clear hw4
  obtain ⟨g0, g1, g2⟩ := (unhide HLy).1.later (unhide HB1) (Nat.le_refl _) (unhide HLy).2
  rw [Nat.zero_mul, Nat.add_zero] at g0 g1 g2
  go_wp2_with fail
  refine ((unhide HIy) _ (unhide HB1)).mono ?_
  rintro r w5 ⟨rfl, hb5⟩
  have HB5 := hide ((unhide HB1).trans (hb5.mono (unhide HB1).size))
  clear hb5
  go_wp2_with fail
  go_ret
  exact ⟨by rw [unhide HE2]; rfl, unhide HB5⟩

set_option maxRecDepth 100000 in
set_option maxHeartbeats 1600000 in
theorem ask_8 (n : Nat) (m : Int) (ad : Option Addr) (cap : Nat) (y : Qk.AT n) (z : Qk.AT n) (w : World) (hs : Qk.RS w (Qk.RA w n) ⟨ad, 2, cap⟩ [y, z]) (hw : Qk.wrong (n + 1) ((8, m), [y, z]) = 0) (hp : Qk.parts (n + 1) ((8, m), [y, z]) ≤ 15)
    (ih : ∀ (e : Qk.E) (x : Qk.AT n) (W : World), Qk.RA W n e x → Qk.wrong n x = 0 → Qk.parts n x ≤ 15 → Calls Tryz.prog 10 #[e.val] W fun r w' => r = .returned (.string (Qk.text n x)) ∧ Below W.heap.size W w') :
    Calls Tryz.prog 10 #[.agg #[.int .i64 8, .int .i64 m, .slice ad 2 cap]] w fun r w' => r = .returned (.string (Qk.text (n + 1) ((8, m), [y, z]))) ∧ Below w.heap.size w w' := by
  obtain ⟨_, _, hb, hsub⟩ := Qk.isK_parts hw
  have HW := hide (fun (W : World) => askWord_any 8 rfl W)
  have HAR := hide (fun (W : World) => show Calls Tryz.prog 25 #[.int .i64 8] W fun r w' => r = .returned (.int .i64 2) ∧ w' = W from AskArgs_any 8 W)
  have sW := Qk.word_size 8
  have sH := Qk.headT_size 8 m (Qk.bound hb).1 (Qk.bound hb).2
  have HH := hide (show Qk.headT 8 m = Qk.word 8 by unfold Qk.headT; rw [if_neg (by decide)])
  have hpy : Qk.parts n y ≤ 15 := by
    have h1 : 1 + (Qk.parts n y + (Qk.parts n z + 0)) ≤ 15 := hp
    omega
  have sy := Qk.text_size n y (hsub y (by simp))
  obtain ⟨by0, oy0, cy, hby, hlty, hLy, hAy⟩ := hs.at_ 0 y rfl
  obtain rfl : ad = some ⟨by0, oy0, none⟩ := hby
  have HLy := hide (And.intro hLy hlty)
  have HIy := hide (fun (W : World) (hb1 : Below w.heap.size w W) => show Calls Tryz.prog 10 #[.agg #[.int .i64 cy.k, .int .i64 cy.n, .slice cy.args.ad cy.args.len cy.args.cap]] W fun r w' => r = .returned (.string (Qk.text n y)) ∧ Below W.heap.size W w' from ih cy y W (Qk.RA.later hb1 (Nat.le_refl _) n hAy) (hsub y (by simp)) hpy)
  have hpz : Qk.parts n z ≤ 15 := by
    have h1 : 1 + (Qk.parts n y + (Qk.parts n z + 0)) ≤ 15 := hp
    omega
  have sz := Qk.text_size n z (hsub z (by simp))
  obtain ⟨bz, oz, cz, hbz, hltz, hLz, hAz⟩ := hs.at_ 1 z rfl
  obtain ⟨rfl, rfl⟩ : by0 = bz ∧ oy0 = oz := by simpa using hbz
  have HLz := hide (And.intro hLz hltz)
  have HIz := hide (fun (W : World) (hb1 : Below w.heap.size w W) => show Calls Tryz.prog 10 #[.agg #[.int .i64 cz.k, .int .i64 cz.n, .slice cz.args.ad cz.args.len cz.args.cap]] W fun r w' => r = .returned (.string (Qk.text n z)) ∧ Below W.heap.size W w' from ih cz z W (Qk.RA.later hb1 (Nat.le_refl _) n hAz) (hsub z (by simp)) hpz)
  have HE := hide (show Qk.text (n + 1) ((8, m), [y, z]) = (((((⟨#[40]⟩ ++ Qk.text n y) ++ ⟨#[32]⟩) ++ Qk.headT 8 m) ++ ⟨#[32]⟩) ++ Qk.text n z) ++ ⟨#[41]⟩ from rfl)
  clear hw hp ih hb hsub hs
  generalize Qk.text (n + 1) ((8, m), [y, z]) = T at *
  go_enter Tryz.func10, Tryz.ntmps10
  go_wp2_with fail
  refine ((unhide HW) _).mono ?_
  rintro r w1 ⟨rfl, hb1⟩
  have q0 : w1.cell? ⟨w.heap.size, 0, none⟩ = some (.int .i64 8) := (hb1.cell (p := ⟨w.heap.size, 0, none⟩) (by simp)).trans (by simp)
  have q1 : w1.cell? ⟨w.heap.size, 1, none⟩ = some (.int .i64 m) := (hb1.cell (p := ⟨w.heap.size, 1, none⟩) (by simp)).trans (by simp)
  have q2 : w1.cell? ⟨w.heap.size, 2, none⟩ = some (.slice (some ⟨by0, oy0, none⟩) 2 cap) := (hb1.cell (p := ⟨w.heap.size, 2, none⟩) (by simp)).trans (by simp)
  have HB1 := hide (below_two hb1)
  have hs1 : w.heap.size < w1.heap.size := by have := hb1.size; simp at this; omega
  clear hb1
  generalize Qk.word 8 = WD at *
  go_wp2_with fail
  refine ((unhide HAR) _).mono ?_
  rintro r w2 ⟨rfl, hw2⟩
  obtain rfl : w1 = w2 := hw2.symm
  clear hw2
  have e1 : (⟨#[32]⟩ : ByteArray).size = 1 := rfl
  have e2 : (⟨#[40]⟩ : ByteArray).size = 1 := rfl
  have e3 : (⟨#[41]⟩ : ByteArray).size = 1 := rfl
  have a1 : ∀ W : World, (Op.stringOp .add ⟨#[40]⟩ (Qk.text n y)).run Tryz.prog W = .ok (.string (⟨#[40]⟩ ++ (Qk.text n y))) W := fun W => run_string_add_sum W _ _ (by simp only [e2]; omega)
  have a2 : ∀ W : World, (Op.stringOp .add (⟨#[40]⟩ ++ Qk.text n y) ⟨#[32]⟩).run Tryz.prog W = .ok (.string ((⟨#[40]⟩ ++ Qk.text n y) ++ ⟨#[32]⟩)) W := fun W => run_string_add_sum W _ _ (by simp only [ByteArray.size_append, e1, e2]; omega)
  have a3 : ∀ W : World, (Op.stringOp .add ((⟨#[40]⟩ ++ Qk.text n y) ++ ⟨#[32]⟩) WD).run Tryz.prog W = .ok (.string (((⟨#[40]⟩ ++ Qk.text n y) ++ ⟨#[32]⟩) ++ WD)) W := fun W => run_string_add_sum W _ _ (by simp only [ByteArray.size_append, e1, e2]; omega)
  have a4 : ∀ W : World, (Op.stringOp .add (((⟨#[40]⟩ ++ Qk.text n y) ++ ⟨#[32]⟩) ++ WD) ⟨#[32]⟩).run Tryz.prog W = .ok (.string ((((⟨#[40]⟩ ++ Qk.text n y) ++ ⟨#[32]⟩) ++ WD) ++ ⟨#[32]⟩)) W := fun W => run_string_add_sum W _ _ (by simp only [ByteArray.size_append, e1, e2]; omega)
  have a5 : ∀ W : World, (Op.stringOp .add ((((⟨#[40]⟩ ++ Qk.text n y) ++ ⟨#[32]⟩) ++ WD) ++ ⟨#[32]⟩) (Qk.text n z)).run Tryz.prog W = .ok (.string (((((⟨#[40]⟩ ++ Qk.text n y) ++ ⟨#[32]⟩) ++ WD) ++ ⟨#[32]⟩) ++ (Qk.text n z))) W := fun W => run_string_add_sum W _ _ (by simp only [ByteArray.size_append, e1, e2]; omega)
  have a6 : ∀ W : World, (Op.stringOp .add (((((⟨#[40]⟩ ++ Qk.text n y) ++ ⟨#[32]⟩) ++ WD) ++ ⟨#[32]⟩) ++ Qk.text n z) ⟨#[41]⟩).run Tryz.prog W = .ok (.string ((((((⟨#[40]⟩ ++ Qk.text n y) ++ ⟨#[32]⟩) ++ WD) ++ ⟨#[32]⟩) ++ Qk.text n z) ++ ⟨#[41]⟩)) W := fun W => run_string_add_sum W _ _ (by simp only [ByteArray.size_append, e1, e2, e3]; omega)
  clear e1 e2 e3
  obtain ⟨g0, g1, g2⟩ := (unhide HLy).1.later (unhide HB1) (Nat.le_refl _) (unhide HLy).2
  rw [Nat.zero_mul, Nat.add_zero] at g0 g1 g2
  obtain ⟨d0, d1, d2⟩ := (unhide HLz).1.later (unhide HB1) (Nat.le_refl _) (unhide HLz).2
  rw [Nat.one_mul] at d0 d1 d2
  have HS := hide (show Qk.S7 w by0 oy0 cap cy cz w1 from ⟨q2, g0, g1, g2, d0, d1, d2, unhide HB1⟩)
  go_wp2_with fail
  go_region_held3 (fun W => W.cell? ⟨w.heap.size, 2, none⟩ = some (.slice (some ⟨by0, oy0, none⟩) 2 cap) ∧ W.cell? ⟨by0, oy0, none⟩ = some (.int .i64 cy.k) ∧ W.cell? ⟨by0, oy0 + 1, none⟩ = some (.int .i64 cy.n) ∧ W.cell? ⟨by0, oy0 + 2, none⟩ = some (.slice cy.args.ad cy.args.len cy.args.cap) ∧ W.cell? ⟨by0, oy0 + 3, none⟩ = some (.int .i64 cz.k) ∧ W.cell? ⟨by0, oy0 + 3 + 1, none⟩ = some (.int .i64 cz.n) ∧ W.cell? ⟨by0, oy0 + 3 + 2, none⟩ = some (.slice cz.args.ad cz.args.len cz.args.cap) ∧ Below w.heap.size w W)
    (first
      | exact Qk.S7.below (by assumption) (unhide HBS)
      | exact Qk.S7.drew (unhide HS))
    (first
      | (go_at_call_of 10 (Value.agg #[.int .i64 cy.k, .int .i64 cy.n, .slice cy.args.ad cy.args.len cy.args.cap]); refine ((unhide HIy) _ (Qk.S7.bel (by assumption))).mono ?_; rintro r w4 ⟨rfl, hb4⟩; have HBS := hide hb4; clear hb4)
      | (go_at_call_of 10 (Value.agg #[.int .i64 cz.k, .int .i64 cz.n, .slice cz.args.ad cz.args.len cz.args.cap]); refine ((unhide HIz) _ (Qk.S7.bel (by assumption))).mono ?_; rintro r w5 ⟨rfl, hb5⟩; have HBS := hide hb5; clear hb5))
  all_goals
    go_wp2_with fail
    go_ret
    exact ⟨by rw [unhide HE, unhide HH]; rfl, Qk.S7.bel (by assumption)⟩

set_option maxRecDepth 100000 in
set_option maxHeartbeats 1600000 in
theorem ask_9 (n : Nat) (m : Int) (ad : Option Addr) (cap : Nat) (y : Qk.AT n) (z : Qk.AT n) (w : World) (hs : Qk.RS w (Qk.RA w n) ⟨ad, 2, cap⟩ [y, z]) (hw : Qk.wrong (n + 1) ((9, m), [y, z]) = 0) (hp : Qk.parts (n + 1) ((9, m), [y, z]) ≤ 15)
    (ih : ∀ (e : Qk.E) (x : Qk.AT n) (W : World), Qk.RA W n e x → Qk.wrong n x = 0 → Qk.parts n x ≤ 15 → Calls Tryz.prog 10 #[e.val] W fun r w' => r = .returned (.string (Qk.text n x)) ∧ Below W.heap.size W w') :
    Calls Tryz.prog 10 #[.agg #[.int .i64 9, .int .i64 m, .slice ad 2 cap]] w fun r w' => r = .returned (.string (Qk.text (n + 1) ((9, m), [y, z]))) ∧ Below w.heap.size w w' := by
  obtain ⟨_, _, hb, hsub⟩ := Qk.isK_parts hw
  have HW := hide (fun (W : World) => askWord_any 9 rfl W)
  have HAR := hide (fun (W : World) => show Calls Tryz.prog 25 #[.int .i64 9] W fun r w' => r = .returned (.int .i64 2) ∧ w' = W from AskArgs_any 9 W)
  have sW := Qk.word_size 9
  have sH := Qk.headT_size 9 m (Qk.bound hb).1 (Qk.bound hb).2
  have HH := hide (show Qk.headT 9 m = Qk.word 9 by unfold Qk.headT; rw [if_neg (by decide)])
  have hpy : Qk.parts n y ≤ 15 := by
    have h1 : 1 + (Qk.parts n y + (Qk.parts n z + 0)) ≤ 15 := hp
    omega
  have sy := Qk.text_size n y (hsub y (by simp))
  obtain ⟨by0, oy0, cy, hby, hlty, hLy, hAy⟩ := hs.at_ 0 y rfl
  obtain rfl : ad = some ⟨by0, oy0, none⟩ := hby
  have HLy := hide (And.intro hLy hlty)
  have HIy := hide (fun (W : World) (hb1 : Below w.heap.size w W) => show Calls Tryz.prog 10 #[.agg #[.int .i64 cy.k, .int .i64 cy.n, .slice cy.args.ad cy.args.len cy.args.cap]] W fun r w' => r = .returned (.string (Qk.text n y)) ∧ Below W.heap.size W w' from ih cy y W (Qk.RA.later hb1 (Nat.le_refl _) n hAy) (hsub y (by simp)) hpy)
  have hpz : Qk.parts n z ≤ 15 := by
    have h1 : 1 + (Qk.parts n y + (Qk.parts n z + 0)) ≤ 15 := hp
    omega
  have sz := Qk.text_size n z (hsub z (by simp))
  obtain ⟨bz, oz, cz, hbz, hltz, hLz, hAz⟩ := hs.at_ 1 z rfl
  obtain ⟨rfl, rfl⟩ : by0 = bz ∧ oy0 = oz := by simpa using hbz
  have HLz := hide (And.intro hLz hltz)
  have HIz := hide (fun (W : World) (hb1 : Below w.heap.size w W) => show Calls Tryz.prog 10 #[.agg #[.int .i64 cz.k, .int .i64 cz.n, .slice cz.args.ad cz.args.len cz.args.cap]] W fun r w' => r = .returned (.string (Qk.text n z)) ∧ Below W.heap.size W w' from ih cz z W (Qk.RA.later hb1 (Nat.le_refl _) n hAz) (hsub z (by simp)) hpz)
  have HE := hide (show Qk.text (n + 1) ((9, m), [y, z]) = (((((⟨#[40]⟩ ++ Qk.text n y) ++ ⟨#[32]⟩) ++ Qk.headT 9 m) ++ ⟨#[32]⟩) ++ Qk.text n z) ++ ⟨#[41]⟩ from rfl)
  clear hw hp ih hb hsub hs
  generalize Qk.text (n + 1) ((9, m), [y, z]) = T at *
  go_enter Tryz.func10, Tryz.ntmps10
  go_wp2_with fail
  refine ((unhide HW) _).mono ?_
  rintro r w1 ⟨rfl, hb1⟩
  have q0 : w1.cell? ⟨w.heap.size, 0, none⟩ = some (.int .i64 9) := (hb1.cell (p := ⟨w.heap.size, 0, none⟩) (by simp)).trans (by simp)
  have q1 : w1.cell? ⟨w.heap.size, 1, none⟩ = some (.int .i64 m) := (hb1.cell (p := ⟨w.heap.size, 1, none⟩) (by simp)).trans (by simp)
  have q2 : w1.cell? ⟨w.heap.size, 2, none⟩ = some (.slice (some ⟨by0, oy0, none⟩) 2 cap) := (hb1.cell (p := ⟨w.heap.size, 2, none⟩) (by simp)).trans (by simp)
  have HB1 := hide (below_two hb1)
  have hs1 : w.heap.size < w1.heap.size := by have := hb1.size; simp at this; omega
  clear hb1
  generalize Qk.word 9 = WD at *
  go_wp2_with fail
  refine ((unhide HAR) _).mono ?_
  rintro r w2 ⟨rfl, hw2⟩
  obtain rfl : w1 = w2 := hw2.symm
  clear hw2
  have e1 : (⟨#[32]⟩ : ByteArray).size = 1 := rfl
  have e2 : (⟨#[40]⟩ : ByteArray).size = 1 := rfl
  have e3 : (⟨#[41]⟩ : ByteArray).size = 1 := rfl
  have a1 : ∀ W : World, (Op.stringOp .add ⟨#[40]⟩ (Qk.text n y)).run Tryz.prog W = .ok (.string (⟨#[40]⟩ ++ (Qk.text n y))) W := fun W => run_string_add_sum W _ _ (by simp only [e2]; omega)
  have a2 : ∀ W : World, (Op.stringOp .add (⟨#[40]⟩ ++ Qk.text n y) ⟨#[32]⟩).run Tryz.prog W = .ok (.string ((⟨#[40]⟩ ++ Qk.text n y) ++ ⟨#[32]⟩)) W := fun W => run_string_add_sum W _ _ (by simp only [ByteArray.size_append, e1, e2]; omega)
  have a3 : ∀ W : World, (Op.stringOp .add ((⟨#[40]⟩ ++ Qk.text n y) ++ ⟨#[32]⟩) WD).run Tryz.prog W = .ok (.string (((⟨#[40]⟩ ++ Qk.text n y) ++ ⟨#[32]⟩) ++ WD)) W := fun W => run_string_add_sum W _ _ (by simp only [ByteArray.size_append, e1, e2]; omega)
  have a4 : ∀ W : World, (Op.stringOp .add (((⟨#[40]⟩ ++ Qk.text n y) ++ ⟨#[32]⟩) ++ WD) ⟨#[32]⟩).run Tryz.prog W = .ok (.string ((((⟨#[40]⟩ ++ Qk.text n y) ++ ⟨#[32]⟩) ++ WD) ++ ⟨#[32]⟩)) W := fun W => run_string_add_sum W _ _ (by simp only [ByteArray.size_append, e1, e2]; omega)
  have a5 : ∀ W : World, (Op.stringOp .add ((((⟨#[40]⟩ ++ Qk.text n y) ++ ⟨#[32]⟩) ++ WD) ++ ⟨#[32]⟩) (Qk.text n z)).run Tryz.prog W = .ok (.string (((((⟨#[40]⟩ ++ Qk.text n y) ++ ⟨#[32]⟩) ++ WD) ++ ⟨#[32]⟩) ++ (Qk.text n z))) W := fun W => run_string_add_sum W _ _ (by simp only [ByteArray.size_append, e1, e2]; omega)
  have a6 : ∀ W : World, (Op.stringOp .add (((((⟨#[40]⟩ ++ Qk.text n y) ++ ⟨#[32]⟩) ++ WD) ++ ⟨#[32]⟩) ++ Qk.text n z) ⟨#[41]⟩).run Tryz.prog W = .ok (.string ((((((⟨#[40]⟩ ++ Qk.text n y) ++ ⟨#[32]⟩) ++ WD) ++ ⟨#[32]⟩) ++ Qk.text n z) ++ ⟨#[41]⟩)) W := fun W => run_string_add_sum W _ _ (by simp only [ByteArray.size_append, e1, e2, e3]; omega)
  clear e1 e2 e3
  obtain ⟨g0, g1, g2⟩ := (unhide HLy).1.later (unhide HB1) (Nat.le_refl _) (unhide HLy).2
  rw [Nat.zero_mul, Nat.add_zero] at g0 g1 g2
  obtain ⟨d0, d1, d2⟩ := (unhide HLz).1.later (unhide HB1) (Nat.le_refl _) (unhide HLz).2
  rw [Nat.one_mul] at d0 d1 d2
  have HS := hide (show Qk.S7 w by0 oy0 cap cy cz w1 from ⟨q2, g0, g1, g2, d0, d1, d2, unhide HB1⟩)
  go_wp2_with fail
  go_region_held3 (fun W => W.cell? ⟨w.heap.size, 2, none⟩ = some (.slice (some ⟨by0, oy0, none⟩) 2 cap) ∧ W.cell? ⟨by0, oy0, none⟩ = some (.int .i64 cy.k) ∧ W.cell? ⟨by0, oy0 + 1, none⟩ = some (.int .i64 cy.n) ∧ W.cell? ⟨by0, oy0 + 2, none⟩ = some (.slice cy.args.ad cy.args.len cy.args.cap) ∧ W.cell? ⟨by0, oy0 + 3, none⟩ = some (.int .i64 cz.k) ∧ W.cell? ⟨by0, oy0 + 3 + 1, none⟩ = some (.int .i64 cz.n) ∧ W.cell? ⟨by0, oy0 + 3 + 2, none⟩ = some (.slice cz.args.ad cz.args.len cz.args.cap) ∧ Below w.heap.size w W)
    (first
      | exact Qk.S7.below (by assumption) (unhide HBS)
      | exact Qk.S7.drew (unhide HS))
    (first
      | (go_at_call_of 10 (Value.agg #[.int .i64 cy.k, .int .i64 cy.n, .slice cy.args.ad cy.args.len cy.args.cap]); refine ((unhide HIy) _ (Qk.S7.bel (by assumption))).mono ?_; rintro r w4 ⟨rfl, hb4⟩; have HBS := hide hb4; clear hb4)
      | (go_at_call_of 10 (Value.agg #[.int .i64 cz.k, .int .i64 cz.n, .slice cz.args.ad cz.args.len cz.args.cap]); refine ((unhide HIz) _ (Qk.S7.bel (by assumption))).mono ?_; rintro r w5 ⟨rfl, hb5⟩; have HBS := hide hb5; clear hb5))
  all_goals
    go_wp2_with fail
    go_ret
    exact ⟨by rw [unhide HE, unhide HH]; rfl, Qk.S7.bel (by assumption)⟩

set_option maxRecDepth 100000 in
set_option maxHeartbeats 1600000 in
theorem ask_10 (n : Nat) (m : Int) (ad : Option Addr) (cap : Nat) (y : Qk.AT n) (w : World) (hs : Qk.RS w (Qk.RA w n) ⟨ad, 1, cap⟩ [y]) (hw : Qk.wrong (n + 1) ((10, m), [y]) = 0) (hp : Qk.parts (n + 1) ((10, m), [y]) ≤ 15)
    (ih : ∀ (e : Qk.E) (x : Qk.AT n) (W : World), Qk.RA W n e x → Qk.wrong n x = 0 → Qk.parts n x ≤ 15 → Calls Tryz.prog 10 #[e.val] W fun r w' => r = .returned (.string (Qk.text n x)) ∧ Below W.heap.size W w') :
    Calls Tryz.prog 10 #[.agg #[.int .i64 10, .int .i64 m, .slice ad 1 cap]] w fun r w' => r = .returned (.string (Qk.text (n + 1) ((10, m), [y]))) ∧ Below w.heap.size w w' := by
  obtain ⟨_, _, hb, hsub⟩ := Qk.isK_parts hw
  have HW := hide (fun (W : World) => askWord_any 10 rfl W)
  have HAR := hide (fun (W : World) => show Calls Tryz.prog 25 #[.int .i64 10] W fun r w' => r = .returned (.int .i64 1) ∧ w' = W from AskArgs_any 10 W)
  have sW := Qk.word_size 10
  have sH := Qk.headT_size 10 m (Qk.bound hb).1 (Qk.bound hb).2
  have HH := hide (show Qk.headT 10 m = Qk.word 10 by unfold Qk.headT; rw [if_neg (by decide)])
  have hpy : Qk.parts n y ≤ 15 := by
    have h1 : 1 + (Qk.parts n y + 0) ≤ 15 := hp
    omega
  have sy := Qk.text_size n y (hsub y (by simp))
  obtain ⟨by0, oy0, cy, hby, hlty, hLy, hAy⟩ := hs.at_ 0 y rfl
  obtain rfl : ad = some ⟨by0, oy0, none⟩ := hby
  have HLy := hide (And.intro hLy hlty)
  have HIy := hide (fun (W : World) (hb1 : Below w.heap.size w W) => show Calls Tryz.prog 10 #[.agg #[.int .i64 cy.k, .int .i64 cy.n, .slice cy.args.ad cy.args.len cy.args.cap]] W fun r w' => r = .returned (.string (Qk.text n y)) ∧ Below W.heap.size W w' from ih cy y W (Qk.RA.later hb1 (Nat.le_refl _) n hAy) (hsub y (by simp)) hpy)
  have HE := hide (show Qk.text (n + 1) ((10, m), [y]) = (Qk.headT 10 m ++ ⟨#[32]⟩) ++ Qk.text n y from rfl)
  have HE2 := hide (show Qk.text (n + 1) ((10, m), [y]) = Qk.word 10 ++ (⟨#[32]⟩ ++ Qk.text n y) from (unhide HE).trans (by rw [unhide HH]; exact ByteArray.append_assoc))
  clear hw hp ih hb hsub hs
  generalize Qk.text (n + 1) ((10, m), [y]) = T at *
  go_enter Tryz.func10, Tryz.ntmps10
  go_wp2_with fail
  refine ((unhide HW) _).mono ?_
  rintro r w1 ⟨rfl, hb1⟩
  have q0 : w1.cell? ⟨w.heap.size, 0, none⟩ = some (.int .i64 10) := (hb1.cell (p := ⟨w.heap.size, 0, none⟩) (by simp)).trans (by simp)
  have q1 : w1.cell? ⟨w.heap.size, 1, none⟩ = some (.int .i64 m) := (hb1.cell (p := ⟨w.heap.size, 1, none⟩) (by simp)).trans (by simp)
  have q2 : w1.cell? ⟨w.heap.size, 2, none⟩ = some (.slice (some ⟨by0, oy0, none⟩) 1 cap) := (hb1.cell (p := ⟨w.heap.size, 2, none⟩) (by simp)).trans (by simp)
  have HB1 := hide (below_two hb1)
  have hs1 : w.heap.size < w1.heap.size := by have := hb1.size; simp at this; omega
  clear hb1
  generalize Qk.word 10 = WD at *
  go_wp2_with fail
  refine ((unhide HAR) _).mono ?_
  rintro r w2 ⟨rfl, hw2⟩
  obtain rfl : w1 = w2 := hw2.symm
  clear hw2
  go_wp2_with fail
  refine ((unhide HAR) _).mono ?_
  rintro r w4 ⟨rfl, hw4⟩
  obtain rfl : w1 = w4 := hw4.symm
  clear hw4
  obtain ⟨g0, g1, g2⟩ := (unhide HLy).1.later (unhide HB1) (Nat.le_refl _) (unhide HLy).2
  rw [Nat.zero_mul, Nat.add_zero] at g0 g1 g2
  go_wp2_with fail
  refine ((unhide HIy) _ (unhide HB1)).mono ?_
  rintro r w5 ⟨rfl, hb5⟩
  have HB5 := hide ((unhide HB1).trans (hb5.mono (unhide HB1).size))
  clear hb5
  go_wp2_with fail
  go_ret
  exact ⟨by rw [unhide HE2]; rfl, unhide HB5⟩

set_option maxRecDepth 100000 in
set_option maxHeartbeats 1600000 in
theorem ask_11 (n : Nat) (m : Int) (ad : Option Addr) (cap : Nat) (y : Qk.AT n) (w : World) (hs : Qk.RS w (Qk.RA w n) ⟨ad, 1, cap⟩ [y]) (hw : Qk.wrong (n + 1) ((11, m), [y]) = 0) (hp : Qk.parts (n + 1) ((11, m), [y]) ≤ 15)
    (ih : ∀ (e : Qk.E) (x : Qk.AT n) (W : World), Qk.RA W n e x → Qk.wrong n x = 0 → Qk.parts n x ≤ 15 → Calls Tryz.prog 10 #[e.val] W fun r w' => r = .returned (.string (Qk.text n x)) ∧ Below W.heap.size W w') :
    Calls Tryz.prog 10 #[.agg #[.int .i64 11, .int .i64 m, .slice ad 1 cap]] w fun r w' => r = .returned (.string (Qk.text (n + 1) ((11, m), [y]))) ∧ Below w.heap.size w w' := by
  obtain ⟨_, _, hb, hsub⟩ := Qk.isK_parts hw
  have HW := hide (fun (W : World) => askWord_any 11 rfl W)
  have HAR := hide (fun (W : World) => show Calls Tryz.prog 25 #[.int .i64 11] W fun r w' => r = .returned (.int .i64 1) ∧ w' = W from AskArgs_any 11 W)
  have sW := Qk.word_size 11
  have sH := Qk.headT_size 11 m (Qk.bound hb).1 (Qk.bound hb).2
  have HH := hide (show Qk.headT 11 m = Qk.word 11 by unfold Qk.headT; rw [if_neg (by decide)])
  have hpy : Qk.parts n y ≤ 15 := by
    have h1 : 1 + (Qk.parts n y + 0) ≤ 15 := hp
    omega
  have sy := Qk.text_size n y (hsub y (by simp))
  obtain ⟨by0, oy0, cy, hby, hlty, hLy, hAy⟩ := hs.at_ 0 y rfl
  obtain rfl : ad = some ⟨by0, oy0, none⟩ := hby
  have HLy := hide (And.intro hLy hlty)
  have HIy := hide (fun (W : World) (hb1 : Below w.heap.size w W) => show Calls Tryz.prog 10 #[.agg #[.int .i64 cy.k, .int .i64 cy.n, .slice cy.args.ad cy.args.len cy.args.cap]] W fun r w' => r = .returned (.string (Qk.text n y)) ∧ Below W.heap.size W w' from ih cy y W (Qk.RA.later hb1 (Nat.le_refl _) n hAy) (hsub y (by simp)) hpy)
  have HE := hide (show Qk.text (n + 1) ((11, m), [y]) = (Qk.headT 11 m ++ ⟨#[32]⟩) ++ Qk.text n y from rfl)
  have HE2 := hide (show Qk.text (n + 1) ((11, m), [y]) = Qk.word 11 ++ (⟨#[32]⟩ ++ Qk.text n y) from (unhide HE).trans (by rw [unhide HH]; exact ByteArray.append_assoc))
  clear hw hp ih hb hsub hs
  generalize Qk.text (n + 1) ((11, m), [y]) = T at *
  go_enter Tryz.func10, Tryz.ntmps10
  go_wp2_with fail
  refine ((unhide HW) _).mono ?_
  rintro r w1 ⟨rfl, hb1⟩
  have q0 : w1.cell? ⟨w.heap.size, 0, none⟩ = some (.int .i64 11) := (hb1.cell (p := ⟨w.heap.size, 0, none⟩) (by simp)).trans (by simp)
  have q1 : w1.cell? ⟨w.heap.size, 1, none⟩ = some (.int .i64 m) := (hb1.cell (p := ⟨w.heap.size, 1, none⟩) (by simp)).trans (by simp)
  have q2 : w1.cell? ⟨w.heap.size, 2, none⟩ = some (.slice (some ⟨by0, oy0, none⟩) 1 cap) := (hb1.cell (p := ⟨w.heap.size, 2, none⟩) (by simp)).trans (by simp)
  have HB1 := hide (below_two hb1)
  have hs1 : w.heap.size < w1.heap.size := by have := hb1.size; simp at this; omega
  clear hb1
  generalize Qk.word 11 = WD at *
  go_wp2_with fail
  refine ((unhide HAR) _).mono ?_
  rintro r w2 ⟨rfl, hw2⟩
  obtain rfl : w1 = w2 := hw2.symm
  clear hw2
  go_wp2_with fail
  refine ((unhide HAR) _).mono ?_
  rintro r w4 ⟨rfl, hw4⟩
  obtain rfl : w1 = w4 := hw4.symm
  clear hw4
  obtain ⟨g0, g1, g2⟩ := (unhide HLy).1.later (unhide HB1) (Nat.le_refl _) (unhide HLy).2
  rw [Nat.zero_mul, Nat.add_zero] at g0 g1 g2
  go_wp2_with fail
  refine ((unhide HIy) _ (unhide HB1)).mono ?_
  rintro r w5 ⟨rfl, hb5⟩
  have HB5 := hide ((unhide HB1).trans (hb5.mono (unhide HB1).size))
  clear hb5
  go_wp2_with fail
  go_ret
  exact ⟨by rw [unhide HE2]; rfl, unhide HB5⟩

set_option maxRecDepth 100000 in
set_option maxHeartbeats 1600000 in
theorem ask_12 (n : Nat) (m : Int) (ad : Option Addr) (cap : Nat) (y : Qk.AT n) (w : World) (hs : Qk.RS w (Qk.RA w n) ⟨ad, 1, cap⟩ [y]) (hw : Qk.wrong (n + 1) ((12, m), [y]) = 0) (hp : Qk.parts (n + 1) ((12, m), [y]) ≤ 15)
    (ih : ∀ (e : Qk.E) (x : Qk.AT n) (W : World), Qk.RA W n e x → Qk.wrong n x = 0 → Qk.parts n x ≤ 15 → Calls Tryz.prog 10 #[e.val] W fun r w' => r = .returned (.string (Qk.text n x)) ∧ Below W.heap.size W w') :
    Calls Tryz.prog 10 #[.agg #[.int .i64 12, .int .i64 m, .slice ad 1 cap]] w fun r w' => r = .returned (.string (Qk.text (n + 1) ((12, m), [y]))) ∧ Below w.heap.size w w' := by
  obtain ⟨_, _, hb, hsub⟩ := Qk.isK_parts hw
  have HW := hide (fun (W : World) => askWord_any 12 rfl W)
  have HAR := hide (fun (W : World) => show Calls Tryz.prog 25 #[.int .i64 12] W fun r w' => r = .returned (.int .i64 1) ∧ w' = W from AskArgs_any 12 W)
  have sW := Qk.word_size 12
  have sH := Qk.headT_size 12 m (Qk.bound hb).1 (Qk.bound hb).2
  have HH := hide (show Qk.headT 12 m = Qk.word 12 by unfold Qk.headT; rw [if_neg (by decide)])
  have hpy : Qk.parts n y ≤ 15 := by
    have h1 : 1 + (Qk.parts n y + 0) ≤ 15 := hp
    omega
  have sy := Qk.text_size n y (hsub y (by simp))
  obtain ⟨by0, oy0, cy, hby, hlty, hLy, hAy⟩ := hs.at_ 0 y rfl
  obtain rfl : ad = some ⟨by0, oy0, none⟩ := hby
  have HLy := hide (And.intro hLy hlty)
  have HIy := hide (fun (W : World) (hb1 : Below w.heap.size w W) => show Calls Tryz.prog 10 #[.agg #[.int .i64 cy.k, .int .i64 cy.n, .slice cy.args.ad cy.args.len cy.args.cap]] W fun r w' => r = .returned (.string (Qk.text n y)) ∧ Below W.heap.size W w' from ih cy y W (Qk.RA.later hb1 (Nat.le_refl _) n hAy) (hsub y (by simp)) hpy)
  have HE := hide (show Qk.text (n + 1) ((12, m), [y]) = (Qk.headT 12 m ++ ⟨#[32]⟩) ++ Qk.text n y from rfl)
  have HE2 := hide (show Qk.text (n + 1) ((12, m), [y]) = Qk.word 12 ++ (⟨#[32]⟩ ++ Qk.text n y) from (unhide HE).trans (by rw [unhide HH]; exact ByteArray.append_assoc))
  clear hw hp ih hb hsub hs
  generalize Qk.text (n + 1) ((12, m), [y]) = T at *
  go_enter Tryz.func10, Tryz.ntmps10
  go_wp2_with fail
  refine ((unhide HW) _).mono ?_
  rintro r w1 ⟨rfl, hb1⟩
  have q0 : w1.cell? ⟨w.heap.size, 0, none⟩ = some (.int .i64 12) := (hb1.cell (p := ⟨w.heap.size, 0, none⟩) (by simp)).trans (by simp)
  have q1 : w1.cell? ⟨w.heap.size, 1, none⟩ = some (.int .i64 m) := (hb1.cell (p := ⟨w.heap.size, 1, none⟩) (by simp)).trans (by simp)
  have q2 : w1.cell? ⟨w.heap.size, 2, none⟩ = some (.slice (some ⟨by0, oy0, none⟩) 1 cap) := (hb1.cell (p := ⟨w.heap.size, 2, none⟩) (by simp)).trans (by simp)
  have HB1 := hide (below_two hb1)
  have hs1 : w.heap.size < w1.heap.size := by have := hb1.size; simp at this; omega
  clear hb1
  generalize Qk.word 12 = WD at *
  go_wp2_with fail
  refine ((unhide HAR) _).mono ?_
  rintro r w2 ⟨rfl, hw2⟩
  obtain rfl : w1 = w2 := hw2.symm
  clear hw2
  go_wp2_with fail
  refine ((unhide HAR) _).mono ?_
  rintro r w4 ⟨rfl, hw4⟩
  obtain rfl : w1 = w4 := hw4.symm
  clear hw4
  obtain ⟨g0, g1, g2⟩ := (unhide HLy).1.later (unhide HB1) (Nat.le_refl _) (unhide HLy).2
  rw [Nat.zero_mul, Nat.add_zero] at g0 g1 g2
  go_wp2_with fail
  refine ((unhide HIy) _ (unhide HB1)).mono ?_
  rintro r w5 ⟨rfl, hb5⟩
  have HB5 := hide ((unhide HB1).trans (hb5.mono (unhide HB1).size))
  clear hb5
  go_wp2_with fail
  go_ret
  exact ⟨by rw [unhide HE2]; rfl, unhide HB5⟩

set_option maxRecDepth 100000 in
set_option maxHeartbeats 1600000 in
theorem ask_13 (n : Nat) (m : Int) (ad : Option Addr) (cap : Nat) (y : Qk.AT n) (z : Qk.AT n) (w : World) (hs : Qk.RS w (Qk.RA w n) ⟨ad, 2, cap⟩ [y, z]) (hw : Qk.wrong (n + 1) ((13, m), [y, z]) = 0) (hp : Qk.parts (n + 1) ((13, m), [y, z]) ≤ 15)
    (ih : ∀ (e : Qk.E) (x : Qk.AT n) (W : World), Qk.RA W n e x → Qk.wrong n x = 0 → Qk.parts n x ≤ 15 → Calls Tryz.prog 10 #[e.val] W fun r w' => r = .returned (.string (Qk.text n x)) ∧ Below W.heap.size W w') :
    Calls Tryz.prog 10 #[.agg #[.int .i64 13, .int .i64 m, .slice ad 2 cap]] w fun r w' => r = .returned (.string (Qk.text (n + 1) ((13, m), [y, z]))) ∧ Below w.heap.size w w' := by
  obtain ⟨_, _, hb, hsub⟩ := Qk.isK_parts hw
  have HW := hide (fun (W : World) => askWord_any 13 rfl W)
  have HAR := hide (fun (W : World) => show Calls Tryz.prog 25 #[.int .i64 13] W fun r w' => r = .returned (.int .i64 2) ∧ w' = W from AskArgs_any 13 W)
  have sW := Qk.word_size 13
  have sH := Qk.headT_size 13 m (Qk.bound hb).1 (Qk.bound hb).2
  have HH := hide (show Qk.headT 13 m = Qk.word 13 by unfold Qk.headT; rw [if_neg (by decide)])
  have hpy : Qk.parts n y ≤ 15 := by
    have h1 : 1 + (Qk.parts n y + (Qk.parts n z + 0)) ≤ 15 := hp
    omega
  have sy := Qk.text_size n y (hsub y (by simp))
  obtain ⟨by0, oy0, cy, hby, hlty, hLy, hAy⟩ := hs.at_ 0 y rfl
  obtain rfl : ad = some ⟨by0, oy0, none⟩ := hby
  have HLy := hide (And.intro hLy hlty)
  have HIy := hide (fun (W : World) (hb1 : Below w.heap.size w W) => show Calls Tryz.prog 10 #[.agg #[.int .i64 cy.k, .int .i64 cy.n, .slice cy.args.ad cy.args.len cy.args.cap]] W fun r w' => r = .returned (.string (Qk.text n y)) ∧ Below W.heap.size W w' from ih cy y W (Qk.RA.later hb1 (Nat.le_refl _) n hAy) (hsub y (by simp)) hpy)
  have hpz : Qk.parts n z ≤ 15 := by
    have h1 : 1 + (Qk.parts n y + (Qk.parts n z + 0)) ≤ 15 := hp
    omega
  have sz := Qk.text_size n z (hsub z (by simp))
  obtain ⟨bz, oz, cz, hbz, hltz, hLz, hAz⟩ := hs.at_ 1 z rfl
  obtain ⟨rfl, rfl⟩ : by0 = bz ∧ oy0 = oz := by simpa using hbz
  have HLz := hide (And.intro hLz hltz)
  have HIz := hide (fun (W : World) (hb1 : Below w.heap.size w W) => show Calls Tryz.prog 10 #[.agg #[.int .i64 cz.k, .int .i64 cz.n, .slice cz.args.ad cz.args.len cz.args.cap]] W fun r w' => r = .returned (.string (Qk.text n z)) ∧ Below W.heap.size W w' from ih cz z W (Qk.RA.later hb1 (Nat.le_refl _) n hAz) (hsub z (by simp)) hpz)
  have HE := hide (show Qk.text (n + 1) ((13, m), [y, z]) = (((((⟨#[40]⟩ ++ Qk.text n y) ++ ⟨#[32]⟩) ++ Qk.headT 13 m) ++ ⟨#[32]⟩) ++ Qk.text n z) ++ ⟨#[41]⟩ from rfl)
  clear hw hp ih hb hsub hs
  generalize Qk.text (n + 1) ((13, m), [y, z]) = T at *
  go_enter Tryz.func10, Tryz.ntmps10
  go_wp2_with fail
  refine ((unhide HW) _).mono ?_
  rintro r w1 ⟨rfl, hb1⟩
  have q0 : w1.cell? ⟨w.heap.size, 0, none⟩ = some (.int .i64 13) := (hb1.cell (p := ⟨w.heap.size, 0, none⟩) (by simp)).trans (by simp)
  have q1 : w1.cell? ⟨w.heap.size, 1, none⟩ = some (.int .i64 m) := (hb1.cell (p := ⟨w.heap.size, 1, none⟩) (by simp)).trans (by simp)
  have q2 : w1.cell? ⟨w.heap.size, 2, none⟩ = some (.slice (some ⟨by0, oy0, none⟩) 2 cap) := (hb1.cell (p := ⟨w.heap.size, 2, none⟩) (by simp)).trans (by simp)
  have HB1 := hide (below_two hb1)
  have hs1 : w.heap.size < w1.heap.size := by have := hb1.size; simp at this; omega
  clear hb1
  generalize Qk.word 13 = WD at *
  go_wp2_with fail
  refine ((unhide HAR) _).mono ?_
  rintro r w2 ⟨rfl, hw2⟩
  obtain rfl : w1 = w2 := hw2.symm
  clear hw2
  have e1 : (⟨#[32]⟩ : ByteArray).size = 1 := rfl
  have e2 : (⟨#[40]⟩ : ByteArray).size = 1 := rfl
  have e3 : (⟨#[41]⟩ : ByteArray).size = 1 := rfl
  have a1 : ∀ W : World, (Op.stringOp .add ⟨#[40]⟩ (Qk.text n y)).run Tryz.prog W = .ok (.string (⟨#[40]⟩ ++ (Qk.text n y))) W := fun W => run_string_add_sum W _ _ (by simp only [e2]; omega)
  have a2 : ∀ W : World, (Op.stringOp .add (⟨#[40]⟩ ++ Qk.text n y) ⟨#[32]⟩).run Tryz.prog W = .ok (.string ((⟨#[40]⟩ ++ Qk.text n y) ++ ⟨#[32]⟩)) W := fun W => run_string_add_sum W _ _ (by simp only [ByteArray.size_append, e1, e2]; omega)
  have a3 : ∀ W : World, (Op.stringOp .add ((⟨#[40]⟩ ++ Qk.text n y) ++ ⟨#[32]⟩) WD).run Tryz.prog W = .ok (.string (((⟨#[40]⟩ ++ Qk.text n y) ++ ⟨#[32]⟩) ++ WD)) W := fun W => run_string_add_sum W _ _ (by simp only [ByteArray.size_append, e1, e2]; omega)
  have a4 : ∀ W : World, (Op.stringOp .add (((⟨#[40]⟩ ++ Qk.text n y) ++ ⟨#[32]⟩) ++ WD) ⟨#[32]⟩).run Tryz.prog W = .ok (.string ((((⟨#[40]⟩ ++ Qk.text n y) ++ ⟨#[32]⟩) ++ WD) ++ ⟨#[32]⟩)) W := fun W => run_string_add_sum W _ _ (by simp only [ByteArray.size_append, e1, e2]; omega)
  have a5 : ∀ W : World, (Op.stringOp .add ((((⟨#[40]⟩ ++ Qk.text n y) ++ ⟨#[32]⟩) ++ WD) ++ ⟨#[32]⟩) (Qk.text n z)).run Tryz.prog W = .ok (.string (((((⟨#[40]⟩ ++ Qk.text n y) ++ ⟨#[32]⟩) ++ WD) ++ ⟨#[32]⟩) ++ (Qk.text n z))) W := fun W => run_string_add_sum W _ _ (by simp only [ByteArray.size_append, e1, e2]; omega)
  have a6 : ∀ W : World, (Op.stringOp .add (((((⟨#[40]⟩ ++ Qk.text n y) ++ ⟨#[32]⟩) ++ WD) ++ ⟨#[32]⟩) ++ Qk.text n z) ⟨#[41]⟩).run Tryz.prog W = .ok (.string ((((((⟨#[40]⟩ ++ Qk.text n y) ++ ⟨#[32]⟩) ++ WD) ++ ⟨#[32]⟩) ++ Qk.text n z) ++ ⟨#[41]⟩)) W := fun W => run_string_add_sum W _ _ (by simp only [ByteArray.size_append, e1, e2, e3]; omega)
  clear e1 e2 e3
  obtain ⟨g0, g1, g2⟩ := (unhide HLy).1.later (unhide HB1) (Nat.le_refl _) (unhide HLy).2
  rw [Nat.zero_mul, Nat.add_zero] at g0 g1 g2
  obtain ⟨d0, d1, d2⟩ := (unhide HLz).1.later (unhide HB1) (Nat.le_refl _) (unhide HLz).2
  rw [Nat.one_mul] at d0 d1 d2
  have HS := hide (show Qk.S7 w by0 oy0 cap cy cz w1 from ⟨q2, g0, g1, g2, d0, d1, d2, unhide HB1⟩)
  go_wp2_with fail
  go_region_held3 (fun W => W.cell? ⟨w.heap.size, 2, none⟩ = some (.slice (some ⟨by0, oy0, none⟩) 2 cap) ∧ W.cell? ⟨by0, oy0, none⟩ = some (.int .i64 cy.k) ∧ W.cell? ⟨by0, oy0 + 1, none⟩ = some (.int .i64 cy.n) ∧ W.cell? ⟨by0, oy0 + 2, none⟩ = some (.slice cy.args.ad cy.args.len cy.args.cap) ∧ W.cell? ⟨by0, oy0 + 3, none⟩ = some (.int .i64 cz.k) ∧ W.cell? ⟨by0, oy0 + 3 + 1, none⟩ = some (.int .i64 cz.n) ∧ W.cell? ⟨by0, oy0 + 3 + 2, none⟩ = some (.slice cz.args.ad cz.args.len cz.args.cap) ∧ Below w.heap.size w W)
    (first
      | exact Qk.S7.below (by assumption) (unhide HBS)
      | exact Qk.S7.drew (unhide HS))
    (first
      | (go_at_call_of 10 (Value.agg #[.int .i64 cy.k, .int .i64 cy.n, .slice cy.args.ad cy.args.len cy.args.cap]); refine ((unhide HIy) _ (Qk.S7.bel (by assumption))).mono ?_; rintro r w4 ⟨rfl, hb4⟩; have HBS := hide hb4; clear hb4)
      | (go_at_call_of 10 (Value.agg #[.int .i64 cz.k, .int .i64 cz.n, .slice cz.args.ad cz.args.len cz.args.cap]); refine ((unhide HIz) _ (Qk.S7.bel (by assumption))).mono ?_; rintro r w5 ⟨rfl, hb5⟩; have HBS := hide hb5; clear hb5))
  all_goals
    go_wp2_with fail
    go_ret
    exact ⟨by rw [unhide HE, unhide HH]; rfl, Qk.S7.bel (by assumption)⟩

set_option maxRecDepth 100000 in
set_option maxHeartbeats 1600000 in
theorem ask_14 (n : Nat) (m : Int) (ad : Option Addr) (cap : Nat) (y : Qk.AT n) (w : World) (hs : Qk.RS w (Qk.RA w n) ⟨ad, 1, cap⟩ [y]) (hw : Qk.wrong (n + 1) ((14, m), [y]) = 0) (hp : Qk.parts (n + 1) ((14, m), [y]) ≤ 15)
    (ih : ∀ (e : Qk.E) (x : Qk.AT n) (W : World), Qk.RA W n e x → Qk.wrong n x = 0 → Qk.parts n x ≤ 15 → Calls Tryz.prog 10 #[e.val] W fun r w' => r = .returned (.string (Qk.text n x)) ∧ Below W.heap.size W w') :
    Calls Tryz.prog 10 #[.agg #[.int .i64 14, .int .i64 m, .slice ad 1 cap]] w fun r w' => r = .returned (.string (Qk.text (n + 1) ((14, m), [y]))) ∧ Below w.heap.size w w' := by
  obtain ⟨_, _, hb, hsub⟩ := Qk.isK_parts hw
  have HW := hide (fun (W : World) => askWord_any 14 rfl W)
  have HAR := hide (fun (W : World) => show Calls Tryz.prog 25 #[.int .i64 14] W fun r w' => r = .returned (.int .i64 1) ∧ w' = W from AskArgs_any 14 W)
  have sW := Qk.word_size 14
  have sH := Qk.headT_size 14 m (Qk.bound hb).1 (Qk.bound hb).2
  have HD := hide (fun (W : World) => Digits_any m (by have := (Qk.bound hb).1; omega) (by have := (Qk.bound hb).2; omega) W)
  have sN := Qd.num_size m (by have := (Qk.bound hb).1; omega) (by have := (Qk.bound hb).2; omega)
  have HH := hide (show Qk.headT 14 m = Qk.word 14 ++ (⟨#[32]⟩ ++ Qd.num m) by unfold Qk.headT; rw [if_pos (by decide), Qk.numT, if_neg (fun h => absurd h.2 (by decide))])
  have hpy : Qk.parts n y ≤ 15 := by
    have h1 : 1 + (Qk.parts n y + 0) ≤ 15 := hp
    omega
  have sy := Qk.text_size n y (hsub y (by simp))
  obtain ⟨by0, oy0, cy, hby, hlty, hLy, hAy⟩ := hs.at_ 0 y rfl
  obtain rfl : ad = some ⟨by0, oy0, none⟩ := hby
  have HLy := hide (And.intro hLy hlty)
  have HIy := hide (fun (W : World) (hb1 : Below w.heap.size w W) => show Calls Tryz.prog 10 #[.agg #[.int .i64 cy.k, .int .i64 cy.n, .slice cy.args.ad cy.args.len cy.args.cap]] W fun r w' => r = .returned (.string (Qk.text n y)) ∧ Below W.heap.size W w' from ih cy y W (Qk.RA.later hb1 (Nat.le_refl _) n hAy) (hsub y (by simp)) hpy)
  have HE := hide (show Qk.text (n + 1) ((14, m), [y]) = (Qk.headT 14 m ++ ⟨#[32]⟩) ++ Qk.text n y from rfl)
  have HE2 := hide (show Qk.text (n + 1) ((14, m), [y]) = (Qk.word 14 ++ (⟨#[32]⟩ ++ Qd.num m)) ++ (⟨#[32]⟩ ++ Qk.text n y) from (unhide HE).trans (by rw [unhide HH]; exact ByteArray.append_assoc))
  clear hw hp ih hb hsub hs
  generalize Qk.text (n + 1) ((14, m), [y]) = T at *
  go_enter Tryz.func10, Tryz.ntmps10
  go_wp2_with fail
  refine ((unhide HW) _).mono ?_
  rintro r w1 ⟨rfl, hb1⟩
  have q0 : w1.cell? ⟨w.heap.size, 0, none⟩ = some (.int .i64 14) := (hb1.cell (p := ⟨w.heap.size, 0, none⟩) (by simp)).trans (by simp)
  have q1 : w1.cell? ⟨w.heap.size, 1, none⟩ = some (.int .i64 m) := (hb1.cell (p := ⟨w.heap.size, 1, none⟩) (by simp)).trans (by simp)
  have q2 : w1.cell? ⟨w.heap.size, 2, none⟩ = some (.slice (some ⟨by0, oy0, none⟩) 1 cap) := (hb1.cell (p := ⟨w.heap.size, 2, none⟩) (by simp)).trans (by simp)
  have HB1 := hide (below_two hb1)
  have hs1 : w.heap.size < w1.heap.size := by have := hb1.size; simp at this; omega
  clear hb1
  generalize Qk.word 14 = WD at *
  go_wp2_with fail
  refine ((unhide HAR) _).mono ?_
  rintro r w2 ⟨rfl, hw2⟩
  obtain rfl : w1 = w2 := hw2.symm
  clear hw2
  go_wp2_with fail
  refine ((unhide HD) _).mono ?_
  rintro r w3 ⟨rfl, hb3⟩
  replace q0 := (hb3.cell (p := ⟨w.heap.size, 0, none⟩) hs1).trans q0
  replace q2 := (hb3.cell (p := ⟨w.heap.size, 2, none⟩) hs1).trans q2
  have HB3 := hide ((unhide HB1).trans (hb3.mono (unhide HB1).size))
  clear hb3 q1
  go_wp2_with fail
  refine ((unhide HAR) _).mono ?_
  rintro r w4 ⟨rfl, hw4⟩
  obtain rfl : w3 = w4 := hw4.symm
  clear hw4
  obtain ⟨g0, g1, g2⟩ := (unhide HLy).1.later (unhide HB3) (Nat.le_refl _) (unhide HLy).2
  rw [Nat.zero_mul, Nat.add_zero] at g0 g1 g2
  go_wp2_with fail
  refine ((unhide HIy) _ (unhide HB3)).mono ?_
  rintro r w5 ⟨rfl, hb5⟩
  have HB5 := hide ((unhide HB3).trans (hb5.mono (unhide HB3).size))
  clear hb5
  go_wp2_with fail
  go_ret
  exact ⟨by rw [unhide HE2]; rfl, unhide HB5⟩

end Go.Proofs.YtgibipidokkjbaaGreatDoor
