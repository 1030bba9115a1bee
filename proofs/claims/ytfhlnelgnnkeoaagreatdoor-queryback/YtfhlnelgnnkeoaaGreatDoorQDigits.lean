/-
  Digits of the document, and Itoa of the library. By the verifier.
-/
import Derived.Test.YtfhlnelgnnkeoaaGreatDoorDBase
import Derived.Lib.ItoaNum
import Derived.Laws.BytesString
namespace Go.Proofs.YtfhlnelgnnkeoaaGreatDoor
open Go.RowKit
set_option linter.unusedVariables false

/-- The digits of a number, as a text. -/
def Qd.D (u : Nat) : ByteArray := ⟨(Lib.decDigits u).toArray⟩
theorem Qd.D_step {u : Nat} (h : ¬ u < 10) : Qd.D (u / 10) ++ Qd.D (u % 10) = Qd.D u := by
  unfold Qd.D
  conv => rhs; rw [Lib.decDigits, dif_neg h]
  rw [Lib.decDigits_one (i := u % 10) (by omega)]
  apply ByteArray.ext
  simp
theorem Qd.nDigits_le : ∀ (k u : Nat), u < 10 ^ (k + 1) → Lib.nDigits u ≤ k + 1 := by
  intro k
  induction k with
  | zero => intro u h; rw [Lib.nDigits_small (by simpa using h)]; exact Nat.le_refl _
  | succ k ih =>
    intro u h
    by_cases h1 : u < 10
    · rw [Lib.nDigits_small h1]; omega
    · rw [Lib.nDigits, dif_neg h1]
      have := ih (u / 10) (by rw [Nat.pow_succ] at h; omega)
      omega
theorem Qd.D_size (u : Nat) (h : u ≤ 9223372036854775808) : (Qd.D u).size ≤ 19 := by
  show (Lib.decDigits u).toArray.size ≤ 19
  rw [List.size_toArray, Lib.decDigits_length]
  exact Qd.nDigits_le 18 u (by omega)
theorem Qd.add_at (g j : Nat) : (⟨g, 0, none⟩ : Addr).add j = ⟨g, j, none⟩ := by unfold Addr.add; split <;> simp_all
theorem Qd.conv1 (d : Nat) (hd : d < 10) (w : World) (v : Int) (hv : v = 48 + (d : Int)) :
    (convert 69 9 (.slice (some ⟨w.heap.size, 0, none⟩) 1 1)).run Tryz.prog (w.alloc (.cells #[.int .u8 v] 5)) = .ok (.string (Qd.D d)) (w.alloc (.cells #[.int .u8 v] 5)) := by
  unfold Qd.D
  rw [Lib.decDigits_one hd]
  exact run_convert_bytes_back _ 69 9 5 ⟨w.heap.size, 0, none⟩ 1 [UInt8.ofNat (48 + d)] Tryz.underlying69 Tryz.underlying5 Tryz.underlying9 (fun j hj => by
    have : j = 0 := by simp at hj; exact hj
    subst this
    subst hv
    rw [Qd.add_at]
    simp
    omega)

set_option maxRecDepth 100000 in
set_option maxHeartbeats 800000 in
theorem Digits_nat : ∀ (u : Nat) (w : World), u ≤ 9223372036854775807 →
    Calls Tryz.prog 26 #[.int .i64 (u : Nat)] w fun e w' => e = .returned (.string (Qd.D u)) ∧ Below w.heap.size w w' := by
  intro u
  induction u using Nat.strongRecOn with
  | _ u ih =>
    intro w hu
    have hn : ¬ (u : Int) < 0 := by omega
    by_cases h1 : u < 10
    · have h2 : (u : Int) < 10 := by omega
      have hcv := Qd.conv1 u h1 w (48 + (u : Int)) rfl
      go_enter Tryz.func26, Tryz.ntmps26
      go_wp2_with fail
      go_ret
      exact ⟨rfl, (Below.refl _ _).alloc (Nat.le_refl _) _⟩
    · have h2 : ¬ (u : Int) < 10 := by omega
      have HD := hide (fun (W : World) => ih (u / 10) (by omega) W (by omega))
      have HM := hide (fun (W : World) => ih (u % 10) (by omega) W (by omega))
      have HS := hide (Qd.D_step h1)
      have s1 := Qd.D_size (u / 10) (by omega)
      have s2 := Qd.D_size (u % 10) (by omega)
      clear ih
      go_enter Tryz.func26, Tryz.ntmps26
      go_wp2_with fail
      refine ((unhide HD) _).mono ?_
      rintro e w1 ⟨rfl, hb1⟩
      have HB1 := hide hb1
      clear hb1
      go_wp2_with fail
      refine ((unhide HM) _).mono ?_
      rintro e w2 ⟨rfl, hb2⟩
      have HB2 := hide ((unhide HB1).trans (hb2.mono (unhide HB1).size))
      clear hb2
      go_wp2_with fail
      go_ret
      exact ⟨by rw [unhide HS]; rfl, unhide HB2⟩

theorem Qd.neg_div (u : Nat) : Int.tdiv (-(u : Int)) 10 = -((u / 10 : Nat) : Int) := by rw [Int.neg_tdiv, Int.tdiv_eq_ediv_of_nonneg (by omega)]; omega
theorem Qd.neg_mod (u : Nat) : Int.tmod (-(u : Int)) 10 = -((u % 10 : Nat) : Int) := by rw [Int.neg_tmod, Int.tmod_eq_emod_of_nonneg (by omega)]; omega
set_option maxRecDepth 100000 in
set_option maxHeartbeats 800000 in
theorem Digits_neg (u : Nat) (w : World) (h0 : 1 ≤ u) (hu : u ≤ 9223372036854775807) :
    Calls Tryz.prog 26 #[.int .i64 (-(u : Int))] w fun e w' => e = .returned (.string (⟨#[45]⟩ ++ Qd.D u)) ∧ Below w.heap.size w w' := by
  have hn : -(u : Int) < 0 := by omega
  by_cases h1 : u < 10
  · have h2 : -(u : Int) > -10 := by omega
    have HD := hide (fun (W : World) => Digits_nat u W (by omega))
    have s1 := Qd.D_size u (by omega)
    go_enter Tryz.func26, Tryz.ntmps26
    go_wp2_with fail
    refine ((unhide HD) _).mono ?_
    rintro e w1 ⟨rfl, hb1⟩
    have HB1 := hide hb1
    clear hb1
    go_wp2_with fail
    go_ret
    exact ⟨rfl, unhide HB1⟩
  · have h2 : ¬ -(u : Int) > -10 := by omega
    have HD := hide (fun (W : World) => Digits_nat (u / 10) W (by omega))
    have HM := hide (fun (W : World) => Digits_nat (u % 10) W (by omega))
    have HS := hide (Qd.D_step h1)
    have s1 := Qd.D_size (u / 10) (by omega)
    have s2 := Qd.D_size (u % 10) (by omega)
    have e1 := Qd.neg_div u
    have e2 := Qd.neg_mod u
    go_enter Tryz.func26, Tryz.ntmps26
    go_wp2_with fail
    refine ((unhide HD) _).mono ?_
    rintro e w1 ⟨rfl, hb1⟩
    have HB1 := hide hb1
    clear hb1
    go_wp2_with fail
    refine ((unhide HM) _).mono ?_
    rintro e w2 ⟨rfl, hb2⟩
    have HB2 := hide ((unhide HB1).trans (hb2.mono (unhide HB1).size))
    clear hb2
    go_wp2_with fail
    go_ret
    exact ⟨by rw [← unhide HS, ByteArray.append_assoc]; rfl, unhide HB2⟩
end Go.Proofs.YtfhlnelgnnkeoaaGreatDoor
