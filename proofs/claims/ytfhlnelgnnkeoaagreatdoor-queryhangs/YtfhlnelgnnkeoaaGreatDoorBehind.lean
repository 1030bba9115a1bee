/-
  Contracts of behind and behindGap of package token. By the verifier.
-/
import Derived.Test.YtfhlnelgnnkeoaaGreatDoorLeaf
namespace Go.Proofs.YtfhlnelgnnkeoaaGreatDoor
open Go.RowKit
set_option linter.unusedVariables false

theorem Tk.run_step (p : Int → Bool) (s : ByteArray) (k : Nat) (h : k < s.size) :
    Tk.run p ((Tk.B s).drop k) = if p (s[k].toNat : Int) then Tk.run p ((Tk.B s).drop (k + 1)) + 1 else 0 := by
  rw [Tk.B_drop s k h]; rfl

theorem Tk.run_bound (p : Int → Bool) (s : ByteArray) (k : Nat) (h : k ≤ s.size) : k + Tk.run p ((Tk.B s).drop k) ≤ s.size := by
  have := Tk.run_le p ((Tk.B s).drop k)
  rw [List.length_drop, Tk.B_length] at this
  omega

set_option maxHeartbeats 400000 in
theorem behind_nl (s : ByteArray) (i : Nat) (w : World) (hs : s.size ≤ maxLen) (hi : i ≤ s.size) :
    Calls Tryz.prog 77 #[.string s, .int .i64 i, .func (.func 78) #[] #[]] w fun e w' => e = .returned (.int .i64 ((i + Tk.run Tk.notNl ((Tk.B s).drop i) : Nat) : Int)) ∧ w' = w := by
  unfold maxLen at hs
  go_enter Tryz.func77, Tryz.ntmps77
  go_wp2_with fail
  go_loop [1] (fun v => ∃ k : Nat, k ≤ s.size ∧ v = .int .i64 k ∧ k + Tk.run Tk.notNl ((Tk.B s).drop k) = i + Tk.run Tk.notNl ((Tk.B s).drop i)) (fun v => s.size - (intOf v).toNat)
  case atStart => exact ⟨i, hi, rfl, rfl⟩
  case round =>
    obtain ⟨k, hk, rfl, hrun⟩ := hrel
    have HR : Hid (k + Tk.run Tk.notNl ((Tk.B s).drop k) = i + Tk.run Tk.notNl ((Tk.B s).drop i)) := hrun
    clear hrun
    by_cases hlt : k < s.size
    · have hst : Hid (Tk.run Tk.notNl ((Tk.B s).drop k) = if Tk.notNl (s[k].toNat : Int) then Tk.run Tk.notNl ((Tk.B s).drop (k + 1)) + 1 else 0) := Tk.run_step Tk.notNl s k hlt
      go_wp2_with fail
      refine (notNl_any _ _).mono ?_
      rintro e w' ⟨rfl, rfl⟩
      cases hp : Tk.notNl (s[k].toNat : Int)
      · have h1 : Hid (k = i + Tk.run Tk.notNl ((Tk.B s).drop i)) := by
          have a := hst.out; have b := HR.out; rw [hp] at a; simp at a; show _ = _; omega
        clear hst HR hp
        go_wp2_with fail
        go_ret
        exact ⟨ret_int (by have := h1.out; omega), rfl⟩
      · have h1 : Hid (k + 1 + Tk.run Tk.notNl ((Tk.B s).drop (k + 1)) = i + Tk.run Tk.notNl ((Tk.B s).drop i)) := by
          have a := hst.out; have b := HR.out; rw [hp] at a; simp at a; show _ = _; omega
        clear hst HR hp
        go_wp2_with fail
        go_round
        case rel => exact ⟨k + 1, by omega, by go_num, h1.out⟩
        case measure => simp [intOf]; omega
    · have h0 : Hid (k = i + Tk.run Tk.notNl ((Tk.B s).drop i)) := by
        have b := HR.out
        rw [Tk.B_drop_end s k (by omega)] at b
        exact b
      clear HR
      go_wp2_with fail
      go_ret
      exact ⟨ret_int (by have := h0.out; omega), rfl⟩

set_option maxHeartbeats 400000 in
theorem behind_digit (s : ByteArray) (i : Nat) (w : World) (hs : s.size ≤ maxLen) (hi : i ≤ s.size) :
    Calls Tryz.prog 77 #[.string s, .int .i64 i, .func (.func 81) #[] #[]] w fun e w' => e = .returned (.int .i64 ((i + Tk.run Tk.isD ((Tk.B s).drop i) : Nat) : Int)) ∧ w' = w := by
  unfold maxLen at hs
  go_enter Tryz.func77, Tryz.ntmps77
  go_wp2_with fail
  go_loop [1] (fun v => ∃ k : Nat, k ≤ s.size ∧ v = .int .i64 k ∧ k + Tk.run Tk.isD ((Tk.B s).drop k) = i + Tk.run Tk.isD ((Tk.B s).drop i)) (fun v => s.size - (intOf v).toNat)
  case atStart => exact ⟨i, hi, rfl, rfl⟩
  case round =>
    obtain ⟨k, hk, rfl, hrun⟩ := hrel
    have HR : Hid (k + Tk.run Tk.isD ((Tk.B s).drop k) = i + Tk.run Tk.isD ((Tk.B s).drop i)) := hrun
    clear hrun
    by_cases hlt : k < s.size
    · have hst : Hid (Tk.run Tk.isD ((Tk.B s).drop k) = if Tk.isD (s[k].toNat : Int) then Tk.run Tk.isD ((Tk.B s).drop (k + 1)) + 1 else 0) := Tk.run_step Tk.isD s k hlt
      go_wp2_with fail
      refine (isDigit_any _ _).mono ?_
      rintro e w' ⟨rfl, rfl⟩
      cases hp : Tk.isD (s[k].toNat : Int)
      · have h1 : Hid (k = i + Tk.run Tk.isD ((Tk.B s).drop i)) := by
          have a := hst.out; have b := HR.out; rw [hp] at a; simp at a; show _ = _; omega
        clear hst HR hp
        go_wp2_with fail
        go_ret
        exact ⟨ret_int (by have := h1.out; omega), rfl⟩
      · have h1 : Hid (k + 1 + Tk.run Tk.isD ((Tk.B s).drop (k + 1)) = i + Tk.run Tk.isD ((Tk.B s).drop i)) := by
          have a := hst.out; have b := HR.out; rw [hp] at a; simp at a; show _ = _; omega
        clear hst HR hp
        go_wp2_with fail
        go_round
        case rel => exact ⟨k + 1, by omega, by go_num, h1.out⟩
        case measure => simp [intOf]; omega
    · have h0 : Hid (k = i + Tk.run Tk.isD ((Tk.B s).drop i)) := by
        have b := HR.out
        rw [Tk.B_drop_end s k (by omega)] at b
        exact b
      clear HR
      go_wp2_with fail
      go_ret
      exact ⟨ret_int (by have := h0.out; omega), rfl⟩

set_option maxHeartbeats 400000 in
theorem behind_name (s : ByteArray) (i : Nat) (w : World) (hs : s.size ≤ maxLen) (hi : i ≤ s.size) :
    Calls Tryz.prog 77 #[.string s, .int .i64 i, .func (.func 98) #[] #[]] w fun e w' => e = .returned (.int .i64 ((i + Tk.run Tk.isLD ((Tk.B s).drop i) : Nat) : Int)) ∧ w' = w := by
  unfold maxLen at hs
  go_enter Tryz.func77, Tryz.ntmps77
  go_wp2_with fail
  go_loop [1] (fun v => ∃ k : Nat, k ≤ s.size ∧ v = .int .i64 k ∧ k + Tk.run Tk.isLD ((Tk.B s).drop k) = i + Tk.run Tk.isLD ((Tk.B s).drop i)) (fun v => s.size - (intOf v).toNat)
  case atStart => exact ⟨i, hi, rfl, rfl⟩
  case round =>
    obtain ⟨k, hk, rfl, hrun⟩ := hrel
    have HR : Hid (k + Tk.run Tk.isLD ((Tk.B s).drop k) = i + Tk.run Tk.isLD ((Tk.B s).drop i)) := hrun
    clear hrun
    by_cases hlt : k < s.size
    · have hst : Hid (Tk.run Tk.isLD ((Tk.B s).drop k) = if Tk.isLD (s[k].toNat : Int) then Tk.run Tk.isLD ((Tk.B s).drop (k + 1)) + 1 else 0) := Tk.run_step Tk.isLD s k hlt
      go_wp2_with fail
      refine (isLD_any _ _).mono ?_
      rintro e w' ⟨rfl, rfl⟩
      cases hp : Tk.isLD (s[k].toNat : Int)
      · have h1 : Hid (k = i + Tk.run Tk.isLD ((Tk.B s).drop i)) := by
          have a := hst.out; have b := HR.out; rw [hp] at a; simp at a; show _ = _; omega
        clear hst HR hp
        go_wp2_with fail
        go_ret
        exact ⟨ret_int (by have := h1.out; omega), rfl⟩
      · have h1 : Hid (k + 1 + Tk.run Tk.isLD ((Tk.B s).drop (k + 1)) = i + Tk.run Tk.isLD ((Tk.B s).drop i)) := by
          have a := hst.out; have b := HR.out; rw [hp] at a; simp at a; show _ = _; omega
        clear hst HR hp
        go_wp2_with fail
        go_round
        case rel => exact ⟨k + 1, by omega, by go_num, h1.out⟩
        case measure => simp [intOf]; omega
    · have h0 : Hid (k = i + Tk.run Tk.isLD ((Tk.B s).drop i)) := by
        have b := HR.out
        rw [Tk.B_drop_end s k (by omega)] at b
        exact b
      clear HR
      go_wp2_with fail
      go_ret
      exact ⟨ret_int (by have := h0.out; omega), rfl⟩

end Go.Proofs.YtfhlnelgnnkeoaaGreatDoor
