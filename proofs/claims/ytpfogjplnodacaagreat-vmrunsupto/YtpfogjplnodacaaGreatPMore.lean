/-
  The contract of scope's hasMore. By the verifier.
-/
import Derived.Test.YtpfogjplnodacaaGreatPLeaf
import Derived.BigGuardPart
set_option maxRecDepth 100000
set_option maxHeartbeats 3200000
namespace Go.Proofs.YtpfogjplnodacaaGreat
open Go.RowKit
set_option linter.unusedVariables false
def Pg.more (k v f : Int) (na : Nat) (bi be : Bool) (nt ne : Nat) : Bool :=
 decide (4 < k ∧ v ≠ 0) || (decide (k ≠ 3 ∧ (f ≠ 0 ∨ 0 < na)) || ((decide (k ≠ 2) && bi) || ((decide (k = 3 ∨ k = 4) && be) || (decide (k < 6 ∧ 0 < nt) || decide (k ≠ 6 ∧ 0 < ne)))))
theorem hasMore_1 (v f ik inn ek en : Int) (ia ea aa ta la : Option Addr) (il ic el ec na ac nt tc ne lc : Nat) (bi be : Bool) (w : World) (hn1 : na ≤ 35184372088832) (hn2 : nt ≤ 35184372088832) (hn3 : ne ≤ 35184372088832)
  (hi : ∀ W, Below w.heap.size w W → Calls Tryz.prog 117 #[.agg #[.int .i64 ik, .int .i64 inn, .slice ia il ic]] W fun r w' => r = .returned (.bool bi) ∧ Below W.heap.size W w')
  (he : ∀ W, Below w.heap.size w W → Calls Tryz.prog 117 #[.agg #[.int .i64 ek, .int .i64 en, .slice ea el ec]] W fun r w' => r = .returned (.bool be) ∧ Below W.heap.size W w') :
  Calls Tryz.prog 125 #[.agg #[.int .i64 1, .int .i64 v, .int .i64 f, .int .i64 ik, .int .i64 inn, .slice ia il ic, .int .i64 ek, .int .i64 en, .slice ea el ec, .slice aa na ac, .slice ta nt tc, .slice la ne lc]] w fun r w' => r = .returned (.bool (Pg.more 1 v f na bi be nt ne)) ∧ Below w.heap.size w w' := by
 obtain ⟨M, hM⟩ : ∃ M, M = Pg.more 1 v f na bi be nt ne := ⟨_, rfl⟩
 rw [← hM]
 have HM := hide hM
 have HI := hide hi
 have HE := hide he
 clear hi he hM
 go_enter Tryz.func125, Tryz.ntmps125
 simp only [List.append_eq, List.cons_append, List.nil_append]
 all_goals rcases (by omega : f = 0 ∨ f ≠ 0) with rfl | hf
 all_goals (try (have bf : (f != 0) = true := by simpa using hf))
 all_goals rcases (by omega : na = 0 ∨ 0 < na) with rfl | hna
 all_goals rcases (by omega : nt = 0 ∨ 0 < nt) with rfl | hnt
 all_goals rcases (by omega : ne = 0 ∨ 0 < ne) with rfl | hne
 all_goals go_wp2_with fail
 all_goals first
  | (go_ret; exact ⟨ret_bool (by rw [unhide HM]; simp [Pg.more, *]), (Below.refl _ _).alloc (Nat.le_refl _) _⟩)
  | (refine ((unhide HI) _ ((Below.refl w.heap.size w).alloc (Nat.le_refl _) _)).mono ?_; rintro r wi ⟨rfl, hbwi⟩; have qwi0 := hbwi.cell (p := ⟨w.heap.size, 0, none⟩) (by simp); have qwi6 := hbwi.cell (p := ⟨w.heap.size, 6, none⟩) (by simp); have qwi7 := hbwi.cell (p := ⟨w.heap.size, 7, none⟩) (by simp); have qwi8 := hbwi.cell (p := ⟨w.heap.size, 8, none⟩) (by simp); have qwi10 := hbwi.cell (p := ⟨w.heap.size, 10, none⟩) (by simp); have qwi11 := hbwi.cell (p := ⟨w.heap.size, 11, none⟩) (by simp); simp at qwi0 qwi6 qwi7 qwi8 qwi10 qwi11; have HBwi := hide ((((Below.refl w.heap.size w).alloc (Nat.le_refl _) _)).trans (hbwi.mono (((Below.refl w.heap.size w).alloc (Nat.le_refl _) _)).size)); clear hbwi; cases bi <;> (go_wp2_with fail; first | (go_ret; exact ⟨ret_bool (by rw [unhide HM]; simp [Pg.more, *]), unhide HBwi⟩)))
theorem hasMore_2 (v f ik inn ek en : Int) (ia ea aa ta la : Option Addr) (il ic el ec na ac nt tc ne lc : Nat) (bi be : Bool) (w : World) (hn1 : na ≤ 35184372088832) (hn2 : nt ≤ 35184372088832) (hn3 : ne ≤ 35184372088832)
  (hi : ∀ W, Below w.heap.size w W → Calls Tryz.prog 117 #[.agg #[.int .i64 ik, .int .i64 inn, .slice ia il ic]] W fun r w' => r = .returned (.bool bi) ∧ Below W.heap.size W w')
  (he : ∀ W, Below w.heap.size w W → Calls Tryz.prog 117 #[.agg #[.int .i64 ek, .int .i64 en, .slice ea el ec]] W fun r w' => r = .returned (.bool be) ∧ Below W.heap.size W w') :
  Calls Tryz.prog 125 #[.agg #[.int .i64 2, .int .i64 v, .int .i64 f, .int .i64 ik, .int .i64 inn, .slice ia il ic, .int .i64 ek, .int .i64 en, .slice ea el ec, .slice aa na ac, .slice ta nt tc, .slice la ne lc]] w fun r w' => r = .returned (.bool (Pg.more 2 v f na bi be nt ne)) ∧ Below w.heap.size w w' := by
 obtain ⟨M, hM⟩ : ∃ M, M = Pg.more 2 v f na bi be nt ne := ⟨_, rfl⟩
 rw [← hM]
 have HM := hide hM
 have HI := hide hi
 have HE := hide he
 clear hi he hM
 go_enter Tryz.func125, Tryz.ntmps125
 simp only [List.append_eq, List.cons_append, List.nil_append]
 all_goals rcases (by omega : f = 0 ∨ f ≠ 0) with rfl | hf
 all_goals (try (have bf : (f != 0) = true := by simpa using hf))
 all_goals rcases (by omega : na = 0 ∨ 0 < na) with rfl | hna
 all_goals rcases (by omega : nt = 0 ∨ 0 < nt) with rfl | hnt
 all_goals rcases (by omega : ne = 0 ∨ 0 < ne) with rfl | hne
 all_goals go_wp2_with fail
 all_goals (go_ret; exact ⟨ret_bool (by rw [unhide HM]; simp [Pg.more, *]), (Below.refl _ _).alloc (Nat.le_refl _) _⟩)
theorem hasMore_3 (v f ik inn ek en : Int) (ia ea aa ta la : Option Addr) (il ic el ec na ac nt tc ne lc : Nat) (bi be : Bool) (w : World) (hn1 : na ≤ 35184372088832) (hn2 : nt ≤ 35184372088832) (hn3 : ne ≤ 35184372088832)
  (hi : ∀ W, Below w.heap.size w W → Calls Tryz.prog 117 #[.agg #[.int .i64 ik, .int .i64 inn, .slice ia il ic]] W fun r w' => r = .returned (.bool bi) ∧ Below W.heap.size W w')
  (he : ∀ W, Below w.heap.size w W → Calls Tryz.prog 117 #[.agg #[.int .i64 ek, .int .i64 en, .slice ea el ec]] W fun r w' => r = .returned (.bool be) ∧ Below W.heap.size W w') :
  Calls Tryz.prog 125 #[.agg #[.int .i64 3, .int .i64 v, .int .i64 f, .int .i64 ik, .int .i64 inn, .slice ia il ic, .int .i64 ek, .int .i64 en, .slice ea el ec, .slice aa na ac, .slice ta nt tc, .slice la ne lc]] w fun r w' => r = .returned (.bool (Pg.more 3 v f na bi be nt ne)) ∧ Below w.heap.size w w' := by
 obtain ⟨M, hM⟩ : ∃ M, M = Pg.more 3 v f na bi be nt ne := ⟨_, rfl⟩
 rw [← hM]
 have HM := hide hM
 have HI := hide hi
 have HE := hide he
 clear hi he hM
 go_enter Tryz.func125, Tryz.ntmps125
 simp only [List.append_eq, List.cons_append, List.nil_append]
 all_goals rcases (by omega : nt = 0 ∨ 0 < nt) with rfl | hnt
 all_goals rcases (by omega : ne = 0 ∨ 0 < ne) with rfl | hne
 all_goals go_wp2_with fail
 all_goals first
  | (go_ret; exact ⟨ret_bool (by rw [unhide HM]; simp [Pg.more, *]), (Below.refl _ _).alloc (Nat.le_refl _) _⟩)
  | (refine ((unhide HI) _ ((Below.refl w.heap.size w).alloc (Nat.le_refl _) _)).mono ?_; rintro r wi ⟨rfl, hbwi⟩; have qwi0 := hbwi.cell (p := ⟨w.heap.size, 0, none⟩) (by simp); have qwi6 := hbwi.cell (p := ⟨w.heap.size, 6, none⟩) (by simp); have qwi7 := hbwi.cell (p := ⟨w.heap.size, 7, none⟩) (by simp); have qwi8 := hbwi.cell (p := ⟨w.heap.size, 8, none⟩) (by simp); have qwi10 := hbwi.cell (p := ⟨w.heap.size, 10, none⟩) (by simp); have qwi11 := hbwi.cell (p := ⟨w.heap.size, 11, none⟩) (by simp); simp at qwi0 qwi6 qwi7 qwi8 qwi10 qwi11; have HBwi := hide ((((Below.refl w.heap.size w).alloc (Nat.le_refl _) _)).trans (hbwi.mono (((Below.refl w.heap.size w).alloc (Nat.le_refl _) _)).size)); clear hbwi; cases bi <;> (go_wp2_with fail; first | (go_ret; exact ⟨ret_bool (by rw [unhide HM]; simp [Pg.more, *]), unhide HBwi⟩) | (refine ((unhide HE) _ (unhide HBwi)).mono ?_; rintro r we ⟨rfl, hbwe⟩; have qwe0 := (hbwe.cell (p := ⟨w.heap.size, 0, none⟩) (World.block_lt_of_cell? _ _ qwi0)).trans qwi0; have qwe6 := (hbwe.cell (p := ⟨w.heap.size, 6, none⟩) (World.block_lt_of_cell? _ _ qwi6)).trans qwi6; have qwe7 := (hbwe.cell (p := ⟨w.heap.size, 7, none⟩) (World.block_lt_of_cell? _ _ qwi7)).trans qwi7; have qwe8 := (hbwe.cell (p := ⟨w.heap.size, 8, none⟩) (World.block_lt_of_cell? _ _ qwi8)).trans qwi8; have qwe10 := (hbwe.cell (p := ⟨w.heap.size, 10, none⟩) (World.block_lt_of_cell? _ _ qwi10)).trans qwi10; have qwe11 := (hbwe.cell (p := ⟨w.heap.size, 11, none⟩) (World.block_lt_of_cell? _ _ qwi11)).trans qwi11; have HBwe := hide ((unhide HBwi).trans (hbwe.mono (unhide HBwi).size)); clear hbwe qwi0 qwi6 qwi7 qwi8 qwi10 qwi11; cases be <;> (go_wp2_with fail; first | (go_ret; exact ⟨ret_bool (by rw [unhide HM]; simp [Pg.more, *]), unhide HBwe⟩)))))
theorem hasMore_4 (v f ik inn ek en : Int) (ia ea aa ta la : Option Addr) (il ic el ec na ac nt tc ne lc : Nat) (bi be : Bool) (w : World) (hn1 : na ≤ 35184372088832) (hn2 : nt ≤ 35184372088832) (hn3 : ne ≤ 35184372088832)
  (hi : ∀ W, Below w.heap.size w W → Calls Tryz.prog 117 #[.agg #[.int .i64 ik, .int .i64 inn, .slice ia il ic]] W fun r w' => r = .returned (.bool bi) ∧ Below W.heap.size W w')
  (he : ∀ W, Below w.heap.size w W → Calls Tryz.prog 117 #[.agg #[.int .i64 ek, .int .i64 en, .slice ea el ec]] W fun r w' => r = .returned (.bool be) ∧ Below W.heap.size W w') :
  Calls Tryz.prog 125 #[.agg #[.int .i64 4, .int .i64 v, .int .i64 f, .int .i64 ik, .int .i64 inn, .slice ia il ic, .int .i64 ek, .int .i64 en, .slice ea el ec, .slice aa na ac, .slice ta nt tc, .slice la ne lc]] w fun r w' => r = .returned (.bool (Pg.more 4 v f na bi be nt ne)) ∧ Below w.heap.size w w' := by
 obtain ⟨M, hM⟩ : ∃ M, M = Pg.more 4 v f na bi be nt ne := ⟨_, rfl⟩
 rw [← hM]
 have HM := hide hM
 have HI := hide hi
 have HE := hide he
 clear hi he hM
 go_enter Tryz.func125, Tryz.ntmps125
 simp only [List.append_eq, List.cons_append, List.nil_append]
 all_goals rcases (by omega : f = 0 ∨ f ≠ 0) with rfl | hf
 all_goals (try (have bf : (f != 0) = true := by simpa using hf))
 all_goals rcases (by omega : na = 0 ∨ 0 < na) with rfl | hna
 all_goals rcases (by omega : nt = 0 ∨ 0 < nt) with rfl | hnt
 all_goals rcases (by omega : ne = 0 ∨ 0 < ne) with rfl | hne
 all_goals go_wp2_with fail
 all_goals first
  | (go_ret; exact ⟨ret_bool (by rw [unhide HM]; simp [Pg.more, *]), (Below.refl _ _).alloc (Nat.le_refl _) _⟩)
  | (refine ((unhide HI) _ ((Below.refl w.heap.size w).alloc (Nat.le_refl _) _)).mono ?_; rintro r wi ⟨rfl, hbwi⟩; have qwi0 := hbwi.cell (p := ⟨w.heap.size, 0, none⟩) (by simp); have qwi6 := hbwi.cell (p := ⟨w.heap.size, 6, none⟩) (by simp); have qwi7 := hbwi.cell (p := ⟨w.heap.size, 7, none⟩) (by simp); have qwi8 := hbwi.cell (p := ⟨w.heap.size, 8, none⟩) (by simp); have qwi10 := hbwi.cell (p := ⟨w.heap.size, 10, none⟩) (by simp); have qwi11 := hbwi.cell (p := ⟨w.heap.size, 11, none⟩) (by simp); simp at qwi0 qwi6 qwi7 qwi8 qwi10 qwi11; have HBwi := hide ((((Below.refl w.heap.size w).alloc (Nat.le_refl _) _)).trans (hbwi.mono (((Below.refl w.heap.size w).alloc (Nat.le_refl _) _)).size)); clear hbwi; cases bi <;> (go_wp2_with fail; first | (go_ret; exact ⟨ret_bool (by rw [unhide HM]; simp [Pg.more, *]), unhide HBwi⟩) | (refine ((unhide HE) _ (unhide HBwi)).mono ?_; rintro r we ⟨rfl, hbwe⟩; have qwe0 := (hbwe.cell (p := ⟨w.heap.size, 0, none⟩) (World.block_lt_of_cell? _ _ qwi0)).trans qwi0; have qwe6 := (hbwe.cell (p := ⟨w.heap.size, 6, none⟩) (World.block_lt_of_cell? _ _ qwi6)).trans qwi6; have qwe7 := (hbwe.cell (p := ⟨w.heap.size, 7, none⟩) (World.block_lt_of_cell? _ _ qwi7)).trans qwi7; have qwe8 := (hbwe.cell (p := ⟨w.heap.size, 8, none⟩) (World.block_lt_of_cell? _ _ qwi8)).trans qwi8; have qwe10 := (hbwe.cell (p := ⟨w.heap.size, 10, none⟩) (World.block_lt_of_cell? _ _ qwi10)).trans qwi10; have qwe11 := (hbwe.cell (p := ⟨w.heap.size, 11, none⟩) (World.block_lt_of_cell? _ _ qwi11)).trans qwi11; have HBwe := hide ((unhide HBwi).trans (hbwe.mono (unhide HBwi).size)); clear hbwe qwi0 qwi6 qwi7 qwi8 qwi10 qwi11; cases be <;> (go_wp2_with fail; first | (go_ret; exact ⟨ret_bool (by rw [unhide HM]; simp [Pg.more, *]), unhide HBwe⟩)))))
theorem hasMore_5 (v f ik inn ek en : Int) (ia ea aa ta la : Option Addr) (il ic el ec na ac nt tc ne lc : Nat) (bi be : Bool) (w : World) (hn1 : na ≤ 35184372088832) (hn2 : nt ≤ 35184372088832) (hn3 : ne ≤ 35184372088832)
  (hi : ∀ W, Below w.heap.size w W → Calls Tryz.prog 117 #[.agg #[.int .i64 ik, .int .i64 inn, .slice ia il ic]] W fun r w' => r = .returned (.bool bi) ∧ Below W.heap.size W w')
  (he : ∀ W, Below w.heap.size w W → Calls Tryz.prog 117 #[.agg #[.int .i64 ek, .int .i64 en, .slice ea el ec]] W fun r w' => r = .returned (.bool be) ∧ Below W.heap.size W w') :
  Calls Tryz.prog 125 #[.agg #[.int .i64 5, .int .i64 v, .int .i64 f, .int .i64 ik, .int .i64 inn, .slice ia il ic, .int .i64 ek, .int .i64 en, .slice ea el ec, .slice aa na ac, .slice ta nt tc, .slice la ne lc]] w fun r w' => r = .returned (.bool (Pg.more 5 v f na bi be nt ne)) ∧ Below w.heap.size w w' := by
 obtain ⟨M, hM⟩ : ∃ M, M = Pg.more 5 v f na bi be nt ne := ⟨_, rfl⟩
 rw [← hM]
 have HM := hide hM
 have HI := hide hi
 have HE := hide he
 clear hi he hM
 go_enter Tryz.func125, Tryz.ntmps125
 simp only [List.append_eq, List.cons_append, List.nil_append]
 all_goals rcases (by omega : v = 0 ∨ v ≠ 0) with rfl | hv
 all_goals (try (have bv : (v != 0) = true := by simpa using hv))
 all_goals rcases (by omega : f = 0 ∨ f ≠ 0) with rfl | hf
 all_goals (try (have bf : (f != 0) = true := by simpa using hf))
 all_goals rcases (by omega : na = 0 ∨ 0 < na) with rfl | hna
 all_goals rcases (by omega : nt = 0 ∨ 0 < nt) with rfl | hnt
 all_goals rcases (by omega : ne = 0 ∨ 0 < ne) with rfl | hne
 all_goals go_wp2_with fail
 all_goals first
  | (go_ret; exact ⟨ret_bool (by rw [unhide HM]; simp [Pg.more, *]), (Below.refl _ _).alloc (Nat.le_refl _) _⟩)
  | (refine ((unhide HI) _ ((Below.refl w.heap.size w).alloc (Nat.le_refl _) _)).mono ?_; rintro r wi ⟨rfl, hbwi⟩; have qwi0 := hbwi.cell (p := ⟨w.heap.size, 0, none⟩) (by simp); have qwi6 := hbwi.cell (p := ⟨w.heap.size, 6, none⟩) (by simp); have qwi7 := hbwi.cell (p := ⟨w.heap.size, 7, none⟩) (by simp); have qwi8 := hbwi.cell (p := ⟨w.heap.size, 8, none⟩) (by simp); have qwi10 := hbwi.cell (p := ⟨w.heap.size, 10, none⟩) (by simp); have qwi11 := hbwi.cell (p := ⟨w.heap.size, 11, none⟩) (by simp); simp at qwi0 qwi6 qwi7 qwi8 qwi10 qwi11; have HBwi := hide ((((Below.refl w.heap.size w).alloc (Nat.le_refl _) _)).trans (hbwi.mono (((Below.refl w.heap.size w).alloc (Nat.le_refl _) _)).size)); clear hbwi; cases bi <;> (go_wp2_with fail; first | (go_ret; exact ⟨ret_bool (by rw [unhide HM]; simp [Pg.more, *]), unhide HBwi⟩)))
theorem hasMore_6 (v f ik inn ek en : Int) (ia ea aa ta la : Option Addr) (il ic el ec na ac nt tc ne lc : Nat) (bi be : Bool) (w : World) (hn1 : na ≤ 35184372088832) (hn2 : nt ≤ 35184372088832) (hn3 : ne ≤ 35184372088832)
  (hi : ∀ W, Below w.heap.size w W → Calls Tryz.prog 117 #[.agg #[.int .i64 ik, .int .i64 inn, .slice ia il ic]] W fun r w' => r = .returned (.bool bi) ∧ Below W.heap.size W w')
  (he : ∀ W, Below w.heap.size w W → Calls Tryz.prog 117 #[.agg #[.int .i64 ek, .int .i64 en, .slice ea el ec]] W fun r w' => r = .returned (.bool be) ∧ Below W.heap.size W w') :
  Calls Tryz.prog 125 #[.agg #[.int .i64 6, .int .i64 v, .int .i64 f, .int .i64 ik, .int .i64 inn, .slice ia il ic, .int .i64 ek, .int .i64 en, .slice ea el ec, .slice aa na ac, .slice ta nt tc, .slice la ne lc]] w fun r w' => r = .returned (.bool (Pg.more 6 v f na bi be nt ne)) ∧ Below w.heap.size w w' := by
 obtain ⟨M, hM⟩ : ∃ M, M = Pg.more 6 v f na bi be nt ne := ⟨_, rfl⟩
 rw [← hM]
 have HM := hide hM
 have HI := hide hi
 have HE := hide he
 clear hi he hM
 go_enter Tryz.func125, Tryz.ntmps125
 simp only [List.append_eq, List.cons_append, List.nil_append]
 all_goals rcases (by omega : v = 0 ∨ v ≠ 0) with rfl | hv
 all_goals (try (have bv : (v != 0) = true := by simpa using hv))
 all_goals rcases (by omega : f = 0 ∨ f ≠ 0) with rfl | hf
 all_goals (try (have bf : (f != 0) = true := by simpa using hf))
 all_goals rcases (by omega : na = 0 ∨ 0 < na) with rfl | hna
 all_goals go_wp2_with fail
 all_goals first
  | (go_ret; exact ⟨ret_bool (by rw [unhide HM]; simp [Pg.more, *]), (Below.refl _ _).alloc (Nat.le_refl _) _⟩)
  | (refine ((unhide HI) _ ((Below.refl w.heap.size w).alloc (Nat.le_refl _) _)).mono ?_; rintro r wi ⟨rfl, hbwi⟩; have qwi0 := hbwi.cell (p := ⟨w.heap.size, 0, none⟩) (by simp); have qwi6 := hbwi.cell (p := ⟨w.heap.size, 6, none⟩) (by simp); have qwi7 := hbwi.cell (p := ⟨w.heap.size, 7, none⟩) (by simp); have qwi8 := hbwi.cell (p := ⟨w.heap.size, 8, none⟩) (by simp); have qwi10 := hbwi.cell (p := ⟨w.heap.size, 10, none⟩) (by simp); have qwi11 := hbwi.cell (p := ⟨w.heap.size, 11, none⟩) (by simp); simp at qwi0 qwi6 qwi7 qwi8 qwi10 qwi11; have HBwi := hide ((((Below.refl w.heap.size w).alloc (Nat.le_refl _) _)).trans (hbwi.mono (((Below.refl w.heap.size w).alloc (Nat.le_refl _) _)).size)); clear hbwi; cases bi <;> (go_wp2_with fail; first | (go_ret; exact ⟨ret_bool (by rw [unhide HM]; simp [Pg.more, *]), unhide HBwi⟩)))
theorem hasMore_7 (v f ik inn ek en : Int) (ia ea aa ta la : Option Addr) (il ic el ec na ac nt tc ne lc : Nat) (bi be : Bool) (w : World) (hn1 : na ≤ 35184372088832) (hn2 : nt ≤ 35184372088832) (hn3 : ne ≤ 35184372088832)
  (hi : ∀ W, Below w.heap.size w W → Calls Tryz.prog 117 #[.agg #[.int .i64 ik, .int .i64 inn, .slice ia il ic]] W fun r w' => r = .returned (.bool bi) ∧ Below W.heap.size W w')
  (he : ∀ W, Below w.heap.size w W → Calls Tryz.prog 117 #[.agg #[.int .i64 ek, .int .i64 en, .slice ea el ec]] W fun r w' => r = .returned (.bool be) ∧ Below W.heap.size W w') :
  Calls Tryz.prog 125 #[.agg #[.int .i64 7, .int .i64 v, .int .i64 f, .int .i64 ik, .int .i64 inn, .slice ia il ic, .int .i64 ek, .int .i64 en, .slice ea el ec, .slice aa na ac, .slice ta nt tc, .slice la ne lc]] w fun r w' => r = .returned (.bool (Pg.more 7 v f na bi be nt ne)) ∧ Below w.heap.size w w' := by
 obtain ⟨M, hM⟩ : ∃ M, M = Pg.more 7 v f na bi be nt ne := ⟨_, rfl⟩
 rw [← hM]
 have HM := hide hM
 have HI := hide hi
 have HE := hide he
 clear hi he hM
 go_enter Tryz.func125, Tryz.ntmps125
 simp only [List.append_eq, List.cons_append, List.nil_append]
 all_goals rcases (by omega : v = 0 ∨ v ≠ 0) with rfl | hv
 all_goals (try (have bv : (v != 0) = true := by simpa using hv))
 all_goals rcases (by omega : f = 0 ∨ f ≠ 0) with rfl | hf
 all_goals (try (have bf : (f != 0) = true := by simpa using hf))
 all_goals rcases (by omega : na = 0 ∨ 0 < na) with rfl | hna
 all_goals rcases (by omega : ne = 0 ∨ 0 < ne) with rfl | hne
 all_goals go_wp2_with fail
 all_goals first
  | (go_ret; exact ⟨ret_bool (by rw [unhide HM]; simp [Pg.more, *]), (Below.refl _ _).alloc (Nat.le_refl _) _⟩)
  | (refine ((unhide HI) _ ((Below.refl w.heap.size w).alloc (Nat.le_refl _) _)).mono ?_; rintro r wi ⟨rfl, hbwi⟩; have qwi0 := hbwi.cell (p := ⟨w.heap.size, 0, none⟩) (by simp); have qwi6 := hbwi.cell (p := ⟨w.heap.size, 6, none⟩) (by simp); have qwi7 := hbwi.cell (p := ⟨w.heap.size, 7, none⟩) (by simp); have qwi8 := hbwi.cell (p := ⟨w.heap.size, 8, none⟩) (by simp); have qwi10 := hbwi.cell (p := ⟨w.heap.size, 10, none⟩) (by simp); have qwi11 := hbwi.cell (p := ⟨w.heap.size, 11, none⟩) (by simp); simp at qwi0 qwi6 qwi7 qwi8 qwi10 qwi11; have HBwi := hide ((((Below.refl w.heap.size w).alloc (Nat.le_refl _) _)).trans (hbwi.mono (((Below.refl w.heap.size w).alloc (Nat.le_refl _) _)).size)); clear hbwi; cases bi <;> (go_wp2_with fail; first | (go_ret; exact ⟨ret_bool (by rw [unhide HM]; simp [Pg.more, *]), unhide HBwi⟩)))
theorem hasMore_any (c : Pg.C) (bi be : Bool) (w : World) (hk : 1 ≤ c.k ∧ c.k ≤ 7) (hn : c.args.len ≤ 35184372088832 ∧ c.thn.len ≤ 35184372088832 ∧ c.els.len ≤ 35184372088832)
  (hi : ∀ W, Below w.heap.size w W → Calls Tryz.prog 117 #[c.ix.val] W fun r w' => r = .returned (.bool bi) ∧ Below W.heap.size W w')
  (he : ∀ W, Below w.heap.size w W → Calls Tryz.prog 117 #[c.ex.val] W fun r w' => r = .returned (.bool be) ∧ Below W.heap.size W w') :
  Calls Tryz.prog 125 #[c.val] w fun r w' => r = .returned (.bool (Pg.more c.k c.v c.f c.args.len bi be c.thn.len c.els.len)) ∧ Below w.heap.size w w' := by
 have h : c.k = 1 ∨ c.k = 2 ∨ c.k = 3 ∨ c.k = 4 ∨ c.k = 5 ∨ c.k = 6 ∨ c.k = 7 := by omega
 unfold Pg.C.val
 rcases h with h | h | h | h | h | h | h <;> rw [h]
 · exact hasMore_1 c.v c.f c.ix.k c.ix.n c.ex.k c.ex.n c.ix.args.ad c.ex.args.ad c.args.ad c.thn.ad c.els.ad c.ix.args.len c.ix.args.cap c.ex.args.len c.ex.args.cap c.args.len c.args.cap c.thn.len c.thn.cap c.els.len c.els.cap bi be w hn.1 hn.2.1 hn.2.2 hi he
 · exact hasMore_2 c.v c.f c.ix.k c.ix.n c.ex.k c.ex.n c.ix.args.ad c.ex.args.ad c.args.ad c.thn.ad c.els.ad c.ix.args.len c.ix.args.cap c.ex.args.len c.ex.args.cap c.args.len c.args.cap c.thn.len c.thn.cap c.els.len c.els.cap bi be w hn.1 hn.2.1 hn.2.2 hi he
 · exact hasMore_3 c.v c.f c.ix.k c.ix.n c.ex.k c.ex.n c.ix.args.ad c.ex.args.ad c.args.ad c.thn.ad c.els.ad c.ix.args.len c.ix.args.cap c.ex.args.len c.ex.args.cap c.args.len c.args.cap c.thn.len c.thn.cap c.els.len c.els.cap bi be w hn.1 hn.2.1 hn.2.2 hi he
 · exact hasMore_4 c.v c.f c.ix.k c.ix.n c.ex.k c.ex.n c.ix.args.ad c.ex.args.ad c.args.ad c.thn.ad c.els.ad c.ix.args.len c.ix.args.cap c.ex.args.len c.ex.args.cap c.args.len c.args.cap c.thn.len c.thn.cap c.els.len c.els.cap bi be w hn.1 hn.2.1 hn.2.2 hi he
 · exact hasMore_5 c.v c.f c.ix.k c.ix.n c.ex.k c.ex.n c.ix.args.ad c.ex.args.ad c.args.ad c.thn.ad c.els.ad c.ix.args.len c.ix.args.cap c.ex.args.len c.ex.args.cap c.args.len c.args.cap c.thn.len c.thn.cap c.els.len c.els.cap bi be w hn.1 hn.2.1 hn.2.2 hi he
 · exact hasMore_6 c.v c.f c.ix.k c.ix.n c.ex.k c.ex.n c.ix.args.ad c.ex.args.ad c.args.ad c.thn.ad c.els.ad c.ix.args.len c.ix.args.cap c.ex.args.len c.ex.args.cap c.args.len c.args.cap c.thn.len c.thn.cap c.els.len c.els.cap bi be w hn.1 hn.2.1 hn.2.2 hi he
 · exact hasMore_7 c.v c.f c.ix.k c.ix.n c.ex.k c.ex.n c.ix.args.ad c.ex.args.ad c.args.ad c.thn.ad c.els.ad c.ix.args.len c.ix.args.cap c.ex.args.len c.ex.args.cap c.args.len c.args.cap c.thn.len c.thn.cap c.els.len c.els.cap bi be w hn.1 hn.2.1 hn.2.2 hi he
end Go.Proofs.YtpfogjplnodacaaGreat
