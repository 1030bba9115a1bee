/-
  Contracts of slices.BinarySearch (of numbers that rise), countBelow. By the verifier.
-/
import Derived.Test.YtfhlnelgnnkeoaaGreatDoorILeaf
namespace Go.Proofs.YtfhlnelgnnkeoaaGreatDoor
open Go.RowKit
set_option linter.unusedVariables false

set_option maxHeartbeats 400000 in
theorem cisNaN_any (x : Int) (w : World) :
    Calls Tryz.prog 116 #[.int .i64 x] w fun e w' => e = .returned (.bool false) ∧ w' = w := by
  have h : (x != x) = false := by simp
  go_enter Tryz.func116, Tryz.ntmps116
  go_wp2_with fail
  go_ret
  exact ⟨rfl, rfl⟩
set_option maxHeartbeats 400000 in
theorem sisNaN_any (x : Int) (w : World) :
    Calls Tryz.prog 107 #[.int .i64 x] w fun e w' => e = .returned (.bool false) ∧ w' = w := by
  have h : (x != x) = false := by simp
  go_enter Tryz.func107, Tryz.ntmps107
  go_wp2_with fail
  go_ret
  exact ⟨rfl, rfl⟩
set_option maxHeartbeats 400000 in
theorem Less_any (x y : Int) (w : World) :
    Calls Tryz.prog 106 #[.int .i64 x, .int .i64 y] w fun e w' => e = .returned (.bool (Ix.low y x)) ∧ w' = w := by
  go_enter Tryz.func106, Tryz.ntmps106
  go_wp2_with (first | (go_at_call 116; refine (cisNaN_any _ _).mono ?_; rintro e w' ⟨rfl, rfl⟩))
  all_goals
    go_ret
    exact ⟨by simp_all [Ix.low], rfl⟩

/-- A number, and something that is or is not. -/
def Ix.TupB (e : Ending) (n : Nat) : Prop := ∃ b : Bool, e = .returned (.tuple #[.int .i64 (n : Nat), .bool b])
theorem Ix.TupB.mk {n m : Nat} (b : Bool) (h : n = m) : Ix.TupB (.returned (.tuple #[.int .i64 (n : Nat), .bool b])) m := ⟨b, by rw [h]⟩
/-- Halfway. -/
theorem Ix.half (i j : Nat) (h : i < j) (hj : j ≤ 4000) : ∃ m : Nat, m = (i + j) / 2 ∧ i ≤ m ∧ m < j := ⟨(i + j) / 2, rfl, by omega, by omega⟩

set_option maxRecDepth 100000 in
set_option maxHeartbeats 1600000 in
theorem BinarySearch_any (zs : List Int) (ad : Option Addr) (cap : Nat) (one : Int) (w : World) (hr : Ix.RI w ad zs) (hu : Ix.Up zs) (hl : zs.length ≤ 4000) :
    Calls Tryz.prog 92 #[.slice ad zs.length cap, .int .i64 one] w fun e w' => Ix.TupB e (Ix.cnt one zs) ∧ w' = w := by
  have HR := hide hr
  have HU := hide hu
  clear hr hu
  go_enter Tryz.func92, Tryz.ntmps92
  go_wp2_with fail
  go_loop [7, 8] (fun iv jv => ∃ i j : Nat, i ≤ j ∧ j ≤ zs.length ∧ iv = .int .i64 i ∧ jv = .int .i64 j ∧ (∀ k x, k < i → zs[k]? = some x → x < one) ∧ (∀ k x, j ≤ k → zs[k]? = some x → one ≤ x)) (fun iv jv => (intOf jv).toNat - (intOf iv).toNat)
  case atStart => exact ⟨0, zs.length, by omega, by omega, rfl, rfl, fun k x hk => by omega, fun k x hk hx => by have := (List.getElem?_eq_some_iff.1 hx).1; omega⟩
  case round =>
    obtain ⟨i, j, hij, hj, rfl, rfl, hlo, hhi⟩ := hrel
    have HLO := hide hlo
    have HHI := hide hhi
    clear hlo hhi
    by_cases hlt : i < j
    · obtain ⟨m, hm, hm1, hm2⟩ := Ix.half i j hlt (by omega)
      have HM := hide hm
      clear hm
      obtain ⟨t, ht⟩ : ∃ t, zs[m]? = some t := ⟨zs[m], List.getElem?_eq_getElem (by omega)⟩
      obtain ⟨b, o, rfl, hb, c0⟩ := (unhide HR).at_ m t ht
      have HT := hide ht
      clear ht
      have hmi : ((i : Int) + (j : Int)) / 2 = (m : Int) := by have := unhide HM; omega
      have h1 : (i : Int) < (j : Int) := by omega
      have h2 : (m : Int) < (zs.length : Int) := by omega
      have h3 : (0 : Int) ≤ (m : Int) := by omega
      go_wp2_with fail
      refine (Less_any _ _ _).mono ?_
      rintro e w' ⟨rfl, rfl⟩
      cases hc : Ix.low one t
      · have HC := hide (show one ≤ t by simpa [Ix.low] using hc)
        clear hc
        go_wp2_with fail
        go_round
        case rel =>
          refine ⟨i, m, by omega, by omega, rfl, by go_num, unhide HLO, ?_⟩
          intro k x hk hx
          rcases Nat.lt_or_ge m k with h | h
          · have := (unhide HU).at_lt h (unhide HT) hx
            have := unhide HC
            omega
          · obtain rfl : k = m := by omega
            rw [unhide HT] at hx
            cases hx
            exact unhide HC
        case measure => simp [intOf]; omega
      · have HC := hide (show t < one by simpa [Ix.low] using hc)
        clear hc
        go_wp2_with fail
        go_round
        case rel =>
          refine ⟨m + 1, j, by omega, by omega, by go_num, rfl, ?_, unhide HHI⟩
          intro k x hk hx
          rcases Nat.lt_or_ge k m with h | h
          · have := (unhide HU).at_lt h hx (unhide HT)
            have := unhide HC
            omega
          · obtain rfl : k = m := by omega
            rw [unhide HT] at hx
            cases hx
            exact unhide HC
        case measure => simp [intOf]; omega
    · obtain rfl : i = j := by omega
      have HE := hide ((unhide HU).cnt_is one hj (unhide HLO) (unhide HHI))
      clear hij
      have h1 : ¬ (i : Int) < (i : Int) := by omega
      by_cases hz : i < zs.length
      · obtain ⟨t, ht⟩ : ∃ t, zs[i]? = some t := ⟨zs[i], List.getElem?_eq_getElem (by omega)⟩
        obtain ⟨b, o, rfl, hb, c0⟩ := (unhide HR).at_ i t ht
        clear ht
        have h2 : (i : Int) < (zs.length : Int) := by omega
        by_cases h3 : t = one
        · have h3' : (t == one) = true := by simpa using h3
          clear h3
          go_wp2_with (first | (go_at_call 107; refine (sisNaN_any _ _).mono ?_; rintro e w' ⟨rfl, rfl⟩))
          go_ret2
          exact ⟨Ix.TupB.mk _ (unhide HE), rfl⟩
        · have h3' : (t == one) = false := by simpa using h3
          clear h3
          go_wp2_with (first | (go_at_call 107; refine (sisNaN_any _ _).mono ?_; rintro e w' ⟨rfl, rfl⟩))
          go_ret2
          exact ⟨Ix.TupB.mk _ (unhide HE), rfl⟩
      · have h2 : ¬ (i : Int) < (zs.length : Int) := by omega
        go_wp2_with fail
        go_ret2
        exact ⟨Ix.TupB.mk _ (unhide HE), rfl⟩

set_option maxHeartbeats 400000 in
theorem countBelow_any (zs : List Int) (ad : Option Addr) (cap : Nat) (one : Int) (w : World) (hr : Ix.RI w ad zs) (hu : Ix.Up zs) (hl : zs.length ≤ 4000) :
    Calls Tryz.prog 105 #[.slice ad zs.length cap, .int .i64 one] w fun e w' => e = .returned (.int .i64 (Ix.cnt one zs : Nat)) ∧ w' = w := by
  have HR := hide hr
  have HU := hide hu
  clear hr hu
  go_enter Tryz.func105, Tryz.ntmps105
  go_wp2_with fail
  refine (BinarySearch_any zs ad cap one _ (unhide HR) (unhide HU) hl).mono ?_
  rintro e w' ⟨⟨b, rfl⟩, rfl⟩
  go_wp2_with fail
  go_ret
  exact ⟨rfl, rfl⟩

end Go.Proofs.YtfhlnelgnnkeoaaGreatDoor
