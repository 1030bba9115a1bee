/-
  The contract of behindGap of package token. By the verifier.
-/
import Derived.Test.YtfhlnelgnnkeoaaGreatDoorBehind
namespace Go.Proofs.YtfhlnelgnnkeoaaGreatDoor
open Go.RowKit
set_option linter.unusedVariables false

theorem Tk.gap_blank (s : ByteArray) (k : Nat) (h : k < s.size) (hc : ((s[k].toNat : Int) == 32 || (s[k].toNat : Int) == 9 || (s[k].toNat : Int) == 10) = true) :
    Tk.gap false ((Tk.B s).drop k) = Tk.gap false ((Tk.B s).drop (k + 1)) + 1 := by
  rw [Tk.B_drop s k h]; simp only [Tk.gap, hc, if_true]

theorem Tk.gap_none (s : ByteArray) (k : Nat) (h : k < s.size) (h32 : ((s[k].toNat : Int) == 32) = false) (h9 : ((s[k].toNat : Int) == 9) = false) (h10 : ((s[k].toNat : Int) == 10) = false)
    (h35 : ((s[k].toNat : Int) == 35) = false) : Tk.gap false ((Tk.B s).drop k) = 0 := by
  rw [Tk.B_drop s k h]; simp only [Tk.gap, h32, h9, h10, h35]; rfl

theorem Tk.gap_note (s : ByteArray) (k : Nat) (h : k < s.size) (h35 : ((s[k].toNat : Int) == 35) = true) :
    Tk.gap false ((Tk.B s).drop k) = Tk.run Tk.notNl ((Tk.B s).drop k) + Tk.gap false ((Tk.B s).drop (k + Tk.run Tk.notNl ((Tk.B s).drop k))) ∧ 0 < Tk.run Tk.notNl ((Tk.B s).drop k) := by
  have e : (s[k].toNat : Int) = 35 := by simpa using h35
  have hr : Tk.run Tk.notNl ((Tk.B s).drop k) = Tk.run Tk.notNl ((Tk.B s).drop (k + 1)) + 1 := by
    rw [Tk.run_step _ s k h, e]; rfl
  have hg : Tk.gap false ((Tk.B s).drop k) = Tk.gap true ((Tk.B s).drop (k + 1)) + 1 := by
    rw [Tk.B_drop s k h, e]; rfl
  have ht := Tk.gap_true ((Tk.B s).drop (k + 1))
  rw [List.drop_drop] at ht
  refine ⟨?_, by omega⟩
  rw [hg, ht, hr, show k + (Tk.run Tk.notNl ((Tk.B s).drop (k + 1)) + 1) = k + 1 + Tk.run Tk.notNl ((Tk.B s).drop (k + 1)) from by omega]
  omega

theorem Tk.gap_bound (s : ByteArray) (k : Nat) (h : k ≤ s.size) : k + Tk.gap false ((Tk.B s).drop k) ≤ s.size := by
  have := Tk.gap_le false ((Tk.B s).drop k)
  rw [List.length_drop, Tk.B_length] at this
  omega

set_option maxHeartbeats 800000 in
theorem behindGap_any (s : ByteArray) (i : Nat) (w : World) (hs : s.size ≤ maxLen) (hi : i ≤ s.size) :
    Calls Tryz.prog 55 #[.string s, .int .i64 i] w fun e w' => e = .returned (.int .i64 ((i + Tk.gap false ((Tk.B s).drop i) : Nat) : Int)) ∧ w' = w := by
  have hs' := hs
  unfold maxLen at hs'
  have HS : Hid (s.size ≤ maxLen) := hs
  clear hs
  go_enter Tryz.func55, Tryz.ntmps55
  go_wp2_with fail
  go_loop [1] (fun v => ∃ k : Nat, k ≤ s.size ∧ v = .int .i64 k ∧ k + Tk.gap false ((Tk.B s).drop k) = i + Tk.gap false ((Tk.B s).drop i)) (fun v => s.size - (intOf v).toNat)
  case atStart => exact ⟨i, hi, rfl, rfl⟩
  case round =>
    obtain ⟨k, hk, rfl, hrun⟩ := hrel
    have HR : Hid (k + Tk.gap false ((Tk.B s).drop k) = i + Tk.gap false ((Tk.B s).drop i)) := hrun
    clear hrun
    by_cases hlt : k < s.size
    · cases h32 : ((s[k].toNat : Int) == 32)
      · cases h9 : ((s[k].toNat : Int) == 9)
        · cases h10 : ((s[k].toNat : Int) == 10)
          · cases h35 : ((s[k].toNat : Int) == 35)
            · have h1 : Hid (k = i + Tk.gap false ((Tk.B s).drop i)) := by
                have a := Tk.gap_none s k hlt h32 h9 h10 h35; have b := HR.out; show _ = _; omega
              clear HR
              go_wp2_with fail
              go_ret
              exact ⟨ret_int (by have := h1.out; omega), rfl⟩
            · have h1 := Tk.gap_note s k hlt h35
              have h2 := Tk.run_bound Tk.notNl s k hk
              have h3 : 0 < Tk.run Tk.notNl ((Tk.B s).drop k) := h1.2
              have H1 := hide h1.1
              clear h1
              go_wp2_with fail
              refine (behind_nl s k _ HS.out hk).mono ?_
              rintro e w' ⟨rfl, rfl⟩
              generalize hm : Tk.run Tk.notNl ((Tk.B s).drop k) = m at *
              have HM := hide hm
              clear hm
              go_wp2_with fail
              go_round
              case rel => exact ⟨k + m, h2, by go_num, by have a := HR.out; have b := unhide H1; omega⟩
              case measure => simp [intOf]; omega
          all_goals skip
          · have h1 : Hid (k + 1 + Tk.gap false ((Tk.B s).drop (k + 1)) = i + Tk.gap false ((Tk.B s).drop i)) := by
              have a := Tk.gap_blank s k hlt (by simp [h10]); have b := HR.out; show _ = _; omega
            clear HR
            go_wp2_with fail
            go_round
            case rel => exact ⟨k + 1, by omega, by go_num, h1.out⟩
            case measure => simp [intOf]; omega
        · have h1 : Hid (k + 1 + Tk.gap false ((Tk.B s).drop (k + 1)) = i + Tk.gap false ((Tk.B s).drop i)) := by
            have a := Tk.gap_blank s k hlt (by simp [h9]); have b := HR.out; show _ = _; omega
          clear HR
          go_wp2_with fail
          go_round
          case rel => exact ⟨k + 1, by omega, by go_num, h1.out⟩
          case measure => simp [intOf]; omega
      · have h1 : Hid (k + 1 + Tk.gap false ((Tk.B s).drop (k + 1)) = i + Tk.gap false ((Tk.B s).drop i)) := by
          have a := Tk.gap_blank s k hlt (by simp [h32]); have b := HR.out; show _ = _; omega
        clear HR
        go_wp2_with fail
        go_round
        case rel => exact ⟨k + 1, by omega, by go_num, h1.out⟩
        case measure => simp [intOf]; omega
    · have h0 : Hid (k = i + Tk.gap false ((Tk.B s).drop i)) := by
        have b := HR.out
        rw [Tk.B_drop_end s k (by omega)] at b
        exact b
      clear HR
      go_wp2_with fail
      go_ret
      exact ⟨ret_int (by have := h0.out; omega), rfl⟩

end Go.Proofs.YtfhlnelgnnkeoaaGreatDoor
