/-
  Contracts of kindOf and hasNumber of package query. By the verifier.
-/
import Derived.Test.YtfhlnelgnnkeoaaGreatDoorQP1
namespace Go.Proofs.YtfhlnelgnnkeoaaGreatDoor
open Go.RowKit
set_option linter.unusedVariables false

theorem Qk.words_ne (j k : Nat) (hj : j ≤ 14) (hk : k ≤ 14) : ((Qk.word (j : Nat)).toList == (Qk.word (k : Nat)).toList) = decide (j = k) := by
  have : ∀ j k : Fin 15, ((Qk.word ((j.val : Nat) : Int)).data.toList == (Qk.word ((k.val : Nat) : Int)).data.toList) = decide (j.val = k.val) := by decide
  rw [ByteArray.toList_eq, ByteArray.toList_eq]
  exact this ⟨j, by omega⟩ ⟨k, by omega⟩
theorem Qk.isK_nat (j : Nat) (h1 : 1 ≤ j) (h2 : j ≤ 14) : Qk.isK (j : Nat) = true := by
  have : ∀ j : Fin 15, 1 ≤ j.val → Qk.isK ((j.val : Nat) : Int) = true := by decide
  exact this ⟨j, by omega⟩ h1

/-- A box of four cells that may be written. -/
structure Qp.Z (W : World) (b : Nat) : Prop where
  c0 : ∃ v, W.cell? ⟨b, 0, none⟩ = some v
  c1 : ∃ v, W.cell? ⟨b, 1, none⟩ = some v
  c2 : ∃ v, W.cell? ⟨b, 2, none⟩ = some v
  c3 : ∃ v, W.cell? ⟨b, 3, none⟩ = some v
  f : ∀ i, W.frozen? ⟨b, i, none⟩ = false
theorem Qp.Z.lt {W : World} {b : Nat} (h : Qp.Z W b) : b < W.heap.size := by
  obtain ⟨v, hv⟩ := h.c0
  exact World.block_lt_of_cell? W _ hv
theorem Qp.Z.later {W W' : World} {b : Nat} (h : Qp.Z W b) (hb : Below W.heap.size W W') : Qp.Z W' b := by
  have hc : ∀ j, W'.cell? ⟨b, j, none⟩ = W.cell? ⟨b, j, none⟩ := fun j => hb.cell (p := ⟨b, j, none⟩) h.lt
  have hf : ∀ j, W'.frozen? ⟨b, j, none⟩ = W.frozen? ⟨b, j, none⟩ := fun j => hb.frozen (p := ⟨b, j, none⟩) h.lt
  exact ⟨by rw [hc]; exact h.c0, by rw [hc]; exact h.c1, by rw [hc]; exact h.c2, by rw [hc]; exact h.c3, fun i => by rw [hf]; exact h.f i⟩

theorem Qp.set4 {W : World} {b : Nat} (h : Qp.Z W b) (u0 u1 u2 u3 : Value) :
    let V := ((((W.setCell ⟨b, 0, none⟩ u0).setCell ⟨b, 1, none⟩ u1).setCell ⟨b, 2, none⟩ u2).setCell ⟨b, 3, none⟩ u3)
    V.cell? ⟨b, 0, none⟩ = some u0 ∧ V.cell? ⟨b, 1, none⟩ = some u1 ∧ V.cell? ⟨b, 2, none⟩ = some u2 ∧ V.cell? ⟨b, 3, none⟩ = some u3 := by
  have ne : ∀ (W : World) (i j : Nat) (v : Value), i ≠ j → (W.setCell ⟨b, j, none⟩ v).cell? ⟨b, i, none⟩ = W.cell? ⟨b, i, none⟩ := fun W i j v hij => World.cell?_setCell_other _ _ _ _ (by intro hh; have := congrArg Addr.off hh; simp at this; omega)
  obtain ⟨a0, h0⟩ := h.c0
  obtain ⟨a1, h1⟩ := h.c1
  obtain ⟨a2, h2⟩ := h.c2
  obtain ⟨a3, h3⟩ := h.c3
  refine ⟨?_, ?_, ?_, ?_⟩
  · rw [ne _ 0 3 _ (by omega), ne _ 0 2 _ (by omega), ne _ 0 1 _ (by omega)]
    exact World.cell?_setCell_same _ _ _ h0
  · rw [ne _ 1 3 _ (by omega), ne _ 1 2 _ (by omega)]
    exact World.cell?_setCell_same _ _ _ (u := a1) (by rw [ne _ 1 0 _ (by omega)]; exact h1)
  · rw [ne _ 2 3 _ (by omega)]
    exact World.cell?_setCell_same _ _ _ (u := a2) (by rw [ne _ 2 1 _ (by omega), ne _ 2 0 _ (by omega)]; exact h2)
  · exact World.cell?_setCell_same _ _ _ (u := a3) (by rw [ne _ 3 2 _ (by omega), ne _ 3 1 _ (by omega), ne _ 3 0 _ (by omega)]; exact h3)

set_option maxRecDepth 100000 in
set_option maxHeartbeats 1600000 in
theorem kindOf_ok (k : Nat) (hk1 : 1 ≤ k) (hk : k ≤ 14) (w : World) :
    Calls Tryz.prog 59 #[.string (Qk.word (k : Nat))] w fun r w' => r = .returned (.tuple #[.int .i64 (k : Nat), Qk.rule (k : Nat)]) ∧ Below w.heap.size w w' := by
  have HR := hide (fun (j : Nat) (h1 : 1 ≤ j) (h2 : j ≤ 14) (W : World) => show Calls Tryz.prog 38 #[.int .i64 (j : Nat)] W fun r w' => r = .returned (.tuple #[.agg #[.string (Qk.word (j : Nat)), .int .i64 (Qk.argsI (j : Nat)), .int .i64 (Qk.least (j : Nat)), .int .i64 (Qk.most (j : Nat))], .bool true]) ∧ Below W.heap.size W w' by
    have := ruleOf_any (j : Nat) W
    rw [Qk.isK_nat j h1 h2] at this
    exact this)
  have HW := hide (fun (j : Nat) (h : j ≤ 14) => Qk.words_ne j k h hk)
  go_enter Tryz.func59, Tryz.ntmps59
  go_wp2_with fail
  go_loopw [4] (fun v wr => ∃ j : Nat, 1 ≤ j ∧ j ≤ k ∧ v = .int .i64 (j : Nat) ∧ Qp.Z wr w.heap.size ∧ Below w.heap.size w wr) (fun v _ => 14 - (intOf v).toNat)
  case atStart => exact ⟨1, Nat.le_refl _, hk1, rfl, ⟨⟨.string ⟨#[]⟩, by go_simp⟩, ⟨.int .i64 0, by go_simp⟩, ⟨.int .i64 0, by go_simp⟩, ⟨.int .i64 0, by go_simp⟩, fun i => by go_simp⟩, (Below.refl _ _).alloc (Nat.le_refl _) _⟩
  case round =>
    obtain ⟨j, hj1, hj, rfl, hz, hb⟩ := hrel
    have HZ := hide hz
    have HB := hide hb
    clear hz hb
    go_wp2_with fail
    refine ((unhide HR) j hj1 (by omega) _).mono ?_
    rintro r w1 ⟨rfl, hb1⟩
    have HZ1 := hide ((unhide HZ).later hb1)
    have HB1 := hide ((unhide HB).trans (hb1.mono (unhide HB).size))
    have hz1 := (unhide HZ1).lt
    clear hb1
    have htx := (unhide HW) j (by omega)
    by_cases hjk : j = k
    · subst hjk
      rw [decide_eq_true rfl] at htx
      go_wp2_with fail
      have hbA := (Below.refl w1.heap.size w1).alloc (Nat.le_refl _) (Obj.cells #[.string (Qk.word (j : Nat)), .int .i64 (Qk.argsI (j : Nat)), .int .i64 (Qk.least (j : Nat)), .int .i64 (Qk.most (j : Nat))] 63)
      have HZD := hide ((unhide HZ1).later hbA)
      have HBD := hide ((unhide HB1).trans (hbA.mono (unhide HB1).size))
      clear hbA
      have e0 : (w1.alloc (Obj.cells #[.string (Qk.word (j : Nat)), .int .i64 (Qk.argsI (j : Nat)), .int .i64 (Qk.least (j : Nat)), .int .i64 (Qk.most (j : Nat))] 63)).cell? ⟨w1.heap.size, 0, none⟩ = some (.string (Qk.word (j : Nat))) := by go_simp
      have e1 : (w1.alloc (Obj.cells #[.string (Qk.word (j : Nat)), .int .i64 (Qk.argsI (j : Nat)), .int .i64 (Qk.least (j : Nat)), .int .i64 (Qk.most (j : Nat))] 63)).cell? ⟨w1.heap.size, 1, none⟩ = some (.int .i64 (Qk.argsI (j : Nat))) := by go_simp
      have e2 : (w1.alloc (Obj.cells #[.string (Qk.word (j : Nat)), .int .i64 (Qk.argsI (j : Nat)), .int .i64 (Qk.least (j : Nat)), .int .i64 (Qk.most (j : Nat))] 63)).cell? ⟨w1.heap.size, 2, none⟩ = some (.int .i64 (Qk.least (j : Nat))) := by go_simp
      have e3 : (w1.alloc (Obj.cells #[.string (Qk.word (j : Nat)), .int .i64 (Qk.argsI (j : Nat)), .int .i64 (Qk.least (j : Nat)), .int .i64 (Qk.most (j : Nat))] 63)).cell? ⟨w1.heap.size, 3, none⟩ = some (.int .i64 (Qk.most (j : Nat))) := by go_simp
      generalize (w1.alloc (Obj.cells #[.string (Qk.word (j : Nat)), .int .i64 (Qk.argsI (j : Nat)), .int .i64 (Qk.least (j : Nat)), .int .i64 (Qk.most (j : Nat))] 63)) = WD at *
      obtain ⟨v0, m0⟩ := (unhide HZD).c0
      obtain ⟨v1, m1⟩ := (unhide HZD).c1
      obtain ⟨v2, m2⟩ := (unhide HZD).c2
      obtain ⟨v3, m3⟩ := (unhide HZD).c3
      have z0 := (unhide HZD).f 0
      have z1 := (unhide HZD).f 1
      have z2 := (unhide HZD).f 2
      have z3 := (unhide HZD).f 3
      have HS := hide (Qp.set4 (unhide HZD) (.string (Qk.word (j : Nat))) (.int .i64 (Qk.argsI (j : Nat))) (.int .i64 (Qk.least (j : Nat))) (.int .i64 (Qk.most (j : Nat))))
      go_region
      all_goals
        go_wp2_with fail
        obtain ⟨s0, s1, s2, s3⟩ := unhide HS
        refine bodyPost_ret (v := .tuple #[.int .i64 (j : Nat), .agg #[.string (Qk.word (j : Nat)), .int .i64 (Qk.argsI (j : Nat)), .int .i64 (Qk.least (j : Nat)), .int .i64 (Qk.most (j : Nat))]]) (by simp [results, Tryz.results59, go_sem, s0, s1, s2, s3]) rfl ?_
        exact ⟨rfl, (((((unhide HBD).setCell (p := ⟨w.heap.size, 0, none⟩) (Nat.le_refl _) _).setCell (p := ⟨w.heap.size, 1, none⟩) (Nat.le_refl _) _).setCell (p := ⟨w.heap.size, 2, none⟩) (Nat.le_refl _) _).setCell (p := ⟨w.heap.size, 3, none⟩) (Nat.le_refl _) _).drew⟩
    · rw [decide_eq_false hjk] at htx
      go_wp2_with fail
      go_round
      case rel => exact ⟨j + 1, by omega, by omega, by go_num, (unhide HZ1).later ((Below.refl w1.heap.size w1).alloc (Nat.le_refl _) _), (unhide HB1).alloc (by omega) _⟩
      case measure => simp [intOf]; omega
end Go.Proofs.YtfhlnelgnnkeoaaGreatDoor
