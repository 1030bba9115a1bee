/- By the verifier. -/
import Derived.Test.YtfccpddehpgfoaaGreatDoorTokB
import Derived.Defers
import Derived.Recover
import Derived.Laws.Pointers
import Derived.Deep.AppendLies
set_option maxHeartbeats 800000
namespace Go.Proofs.YtfccpddehpgfoaaGreatDoor
open Go.RowKit
set_option linter.unusedVariables false
theorem ZbT (b : UInt8) : (b.toNat : Int) ≤ 255 := by have := b.toNat_lt; omega
theorem ZbS (b : UInt8) : 0 ≤ (b.toNat : Int) := by omega
theorem Zfo {k : IntKind} {a a' b b' : Int} (h : a = a') (h2 : b = b') : Ending.returned (.tuple #[.int k a, .int k b]) = .returned (.tuple #[.int k a', .int k b']) := by rw [h, h2]
theorem ZiK (s : ByteArray) (i : Nat) (w : World) (hs : s.size ≤ maxLen) (hi : i < s.size) (hl : Tk.isL (s[i].toNat : Int) = true) :
  Calls Tryz.prog 107 #[.string s, .int .i64 i] w fun e w' => e = .returned (.tuple #[.int .i64 1, .int .i64 ((Tk.run Tk.isLD ((Tk.B s).drop (i + 1)) + 1 : Nat) : Int)]) ∧ w' = w := by
 unfold maxLen at hs
 have HL := Hd hl
 clear hl
 have hi0 : (0 : Int) ≤ (i : Int) := by omega
 have hi1 : (i : Int) < (s.size : Int) := by omega
 go_enter Tryz.func107, Tryz.ntmps107
 go_wp2_with fail
 refine (Zbl _ _ (ZbS _) (ZbT _)).mono ?_
 rintro e w' ⟨rfl, rfl⟩
 rw [uh HL]
 go_wp2_with fail
 go_loop [7] (fun v => ∃ m : Nat, 1 ≤ m ∧ i + m ≤ s.size ∧ v = .int .i64 m ∧ m + Tk.run Tk.isLD ((Tk.B s).drop (i + m)) = Tk.run Tk.isLD ((Tk.B s).drop (i + 1)) + 1) (fun v => s.size - i - (intOf v).toNat)
 case atStart => exact ⟨1, by omega, by omega, rfl, by omega⟩
 case round =>
  obtain ⟨m, hm1, hm, rfl, hrun⟩ := hrel
  have HR := Hd hrun
  clear hrun
  by_cases hlt : i + m < s.size
  · have hst := Zbr Tk.isLD s (i + m) hlt
    have HST := Hd hst
    clear hst
    have hm0 : (0 : Int) ≤ (i : Int) + (m : Int) := by omega
    have hm2 : (i : Int) + (m : Int) < (s.size : Int) := by omega
    cases h1 : Tk.isL (s[i + m].toNat : Int)
    · have H1 := Hd h1
      clear h1
      go_wp2_with fail
      refine (Zbl _ _ (ZbS _) (ZbT _)).mono ?_
      rintro e w' ⟨rfl, rfl⟩
      rw [uh H1]
      go_wp2_with fail
      refine (Zbe _ _ (ZbS _) (ZbT _)).mono ?_
      rintro e w' ⟨rfl, rfl⟩
      cases h2 : Tk.isD (s[i + m].toNat : Int)
      · have h3 : Hid (m = Tk.run Tk.isLD ((Tk.B s).drop (i + 1)) + 1) := by
         have a := uh HST; have b := uh HR
         have hld : Tk.isLD (s[i + m].toNat : Int) = false := by simp [Tk.isLD, uh H1, h2]
         rw [hld] at a; simp at a; show _ = _; omega
        clear h2 HST HR
        go_wp2_with fail
        go_ret2
        exact ⟨Zfo rfl (by have := uh h3; omega), rfl⟩
      have h3 : Hid (m + 1 + Tk.run Tk.isLD ((Tk.B s).drop (i + (m + 1))) = Tk.run Tk.isLD ((Tk.B s).drop (i + 1)) + 1) := by
       have a := uh HST; have b := uh HR
       have hld : Tk.isLD (s[i + m].toNat : Int) = true := by simp [Tk.isLD, uh H1, h2]
       rw [hld] at a; simp at a; show _ = _
       rw [show i + (m + 1) = i + m + 1 from by omega]; omega
      clear h2 HST HR
      go_wp2_with fail
      go_round
      case rel => exact ⟨m + 1, by omega, by omega, by go_num, uh h3⟩
      case measure => simp [intOf]; omega
    have h3 : Hid (m + 1 + Tk.run Tk.isLD ((Tk.B s).drop (i + (m + 1))) = Tk.run Tk.isLD ((Tk.B s).drop (i + 1)) + 1) := by
     have a := uh HST; have b := uh HR
     have hld : Tk.isLD (s[i + m].toNat : Int) = true := by simp [Tk.isLD, h1]
     rw [hld] at a; simp at a; show _ = _
     rw [show i + (m + 1) = i + m + 1 from by omega]; omega
    have H1 := Hd h1
    clear h1 HST HR
    go_wp2_with fail
    refine (Zbl _ _ (ZbS _) (ZbT _)).mono ?_
    rintro e w' ⟨rfl, rfl⟩
    rw [uh H1]
    go_wp2_with fail
    go_round
    case rel => exact ⟨m + 1, by omega, by omega, by go_num, uh h3⟩
    case measure => simp [intOf]; omega
  have h3 : Hid (m = Tk.run Tk.isLD ((Tk.B s).drop (i + 1)) + 1) := by
   have b := uh HR
   rw [Tk.B_drop_end s (i + m) (by omega)] at b
   exact b
  clear HR
  go_wp2_with fail
  go_ret2
  exact ⟨Zfo rfl (by have := uh h3; omega), rfl⟩
theorem ZjV (s : ByteArray) (i : Nat) (w : World) (hs : s.size ≤ maxLen) (hi : i < s.size) (hl : Tk.isL (s[i].toNat : Int) = false) (hd : Tk.isD (s[i].toNat : Int) = true) :
  Calls Tryz.prog 107 #[.string s, .int .i64 i] w fun e w' => e = .returned (.tuple #[.int .i64 2, .int .i64 ((Tk.run Tk.isD ((Tk.B s).drop (i + 1)) + 1 : Nat) : Int)]) ∧ w' = w := by
 unfold maxLen at hs
 have HL := Hd hl
 have HD := Hd hd
 clear hl hd
 have hi0 : (0 : Int) ≤ (i : Int) := by omega
 have hi1 : (i : Int) < (s.size : Int) := by omega
 go_enter Tryz.func107, Tryz.ntmps107
 go_wp2_with fail
 refine (Zbl _ _ (ZbS _) (ZbT _)).mono ?_
 rintro e w' ⟨rfl, rfl⟩
 rw [uh HL]
 go_wp2_with fail
 refine (Zbe _ _ (ZbS _) (ZbT _)).mono ?_
 rintro e w' ⟨rfl, rfl⟩
 rw [uh HD]
 go_wp2_with fail
 go_loop [7] (fun v => ∃ m : Nat, 1 ≤ m ∧ i + m ≤ s.size ∧ v = .int .i64 m ∧ m + Tk.run Tk.isD ((Tk.B s).drop (i + m)) = Tk.run Tk.isD ((Tk.B s).drop (i + 1)) + 1) (fun v => s.size - i - (intOf v).toNat)
 case atStart => exact ⟨1, by omega, by omega, rfl, by omega⟩
 case round =>
  obtain ⟨m, hm1, hm, rfl, hrun⟩ := hrel
  have HR := Hd hrun
  clear hrun
  by_cases hlt : i + m < s.size
  · have hst := Zbr Tk.isD s (i + m) hlt
    have HST := Hd hst
    clear hst
    have hm0 : (0 : Int) ≤ (i : Int) + (m : Int) := by omega
    have hm2 : (i : Int) + (m : Int) < (s.size : Int) := by omega
    go_wp2_with fail
    refine (Zbe _ _ (ZbS _) (ZbT _)).mono ?_
    rintro e w' ⟨rfl, rfl⟩
    cases h2 : Tk.isD (s[i + m].toNat : Int)
    · have h3 : Hid (m = Tk.run Tk.isD ((Tk.B s).drop (i + 1)) + 1) := by
       have a := uh HST; have b := uh HR
       rw [h2] at a; simp at a; show _ = _; omega
      clear h2 HST HR
      go_wp2_with fail
      go_ret2
      exact ⟨Zfo rfl (by have := uh h3; omega), rfl⟩
    have h3 : Hid (m + 1 + Tk.run Tk.isD ((Tk.B s).drop (i + (m + 1))) = Tk.run Tk.isD ((Tk.B s).drop (i + 1)) + 1) := by
     have a := uh HST; have b := uh HR
     rw [h2] at a; simp at a; show _ = _
     rw [show i + (m + 1) = i + m + 1 from by omega]; omega
    clear h2 HST HR
    go_wp2_with fail
    go_round
    case rel => exact ⟨m + 1, by omega, by omega, by go_num, uh h3⟩
    case measure => simp [intOf]; omega
  have h3 : Hid (m = Tk.run Tk.isD ((Tk.B s).drop (i + 1)) + 1) := by
   have b := uh HR
   rw [Tk.B_drop_end s (i + m) (by omega)] at b
   exact b
  clear HR
  go_wp2_with fail
  go_ret2
  exact ⟨Zfo rfl (by have := uh h3; omega), rfl⟩
theorem Zkn (s : ByteArray) (i : Nat) (w : World) (hs : s.size ≤ maxLen) (hi : i < s.size) (hl : Tk.isL (s[i].toNat : Int) = false) (hd : Tk.isD (s[i].toNat : Int) = false)
  (h1 : ((s[i].toNat : Int) == 61) = true) (hn : i + 1 < s.size) (h2 : ((s[i + 1].toNat : Int) == 61) = true) :
  Calls Tryz.prog 107 #[.string s, .int .i64 i] w fun e w' => e = .returned (.tuple #[.int .i64 3, .int .i64 2]) ∧ w' = w := by
 unfold maxLen at hs
 have HL := Hd hl
 have HD := Hd hd
 clear hl hd
 have hi0 : (0 : Int) ≤ (i : Int) := by omega
 have hi1 : (i : Int) < (s.size : Int) := by omega
 have hn0 : (0 : Int) ≤ (i : Int) + 1 := by omega
 have hn1 : (i : Int) + 1 < (s.size : Int) := by omega
 go_enter Tryz.func107, Tryz.ntmps107
 go_wp2_with fail
 refine (Zbl _ _ (ZbS _) (ZbT _)).mono ?_
 rintro e w' ⟨rfl, rfl⟩
 rw [uh HL]
 go_wp2_with fail
 refine (Zbe _ _ (ZbS _) (ZbT _)).mono ?_
 rintro e w' ⟨rfl, rfl⟩
 rw [uh HD]
 go_wp2_with fail
 go_ret2
 exact ⟨rfl, rfl⟩
def Zbv : ByteArray := ⟨#[123, 125, 40, 41, 91, 93, 59, 44, 61, 43, 45, 42, 47, 37, 60]⟩
theorem Zdr : Zbv.size = 15 := rfl
theorem Zg5 : Tk.B Zbv = Tk.signs := by decide +kernel
theorem Zex (j : Nat) (h : j < Zbv.size) : Tk.signs[j]? = some (Zbv[j].toNat : Int) := by
 rw [← Zg5, ← List.head?_drop, Tk.B_drop Zbv j h]; rfl
theorem Zeu (j : Nat) (c : Int) (h : Tk.signs[j]? = some c) : Tk.isSign c = true := by
 unfold Tk.isSign; rw [List.contains_iff_mem]; exact List.mem_of_getElem? h
theorem ZeA (c : Int) (h : ∀ q : Nat, q < 15 → Tk.signs[q]? ≠ some c) : Tk.isSign c = false := by
 apply Bool.eq_false_iff.2
 intro hc
 unfold Tk.isSign at hc
 rw [List.contains_iff_mem] at hc
 obtain ⟨q, hq⟩ := List.getElem?_of_mem hc
 have hl : q < Tk.signs.length := (List.getElem?_eq_some_iff.1 hq).1
 exact h q hl hq
theorem ZiA (s : ByteArray) (i : Nat) (w : World) (hs : s.size ≤ maxLen) (hi : i < s.size) (hl : Tk.isL (s[i].toNat : Int) = false) (hd : Tk.isD (s[i].toNat : Int) = false)
  (h1 : ((s[i].toNat : Int) == 61) = false) (K N : Int) (hK : (if Tk.isSign (s[i].toNat : Int) then (3 : Int) else 0) = K) (hN : (if Tk.isSign (s[i].toNat : Int) then (1 : Int) else 0) = N) :
  Calls Tryz.prog 107 #[.string s, .int .i64 i] w fun e w' => e = .returned (.tuple #[.int .i64 K, .int .i64 N]) ∧ w' = w := by
 unfold maxLen at hs
 have HL := Hd hl
 have HD := Hd hd
 have HK := Hd hK
 have HN := Hd hN
 clear hl hd hK hN
 have hi0 : (0 : Int) ≤ (i : Int) := by omega
 have hi1 : (i : Int) < (s.size : Int) := by omega
 go_enter Tryz.func107, Tryz.ntmps107
 go_wp2_with fail
 refine (Zbl _ _ (ZbS _) (ZbT _)).mono ?_
 rintro e w' ⟨rfl, rfl⟩
 rw [uh HL]
 go_wp2_with fail
 refine (Zbe _ _ (ZbS _) (ZbT _)).mono ?_
 rintro e w' ⟨rfl, rfl⟩
 rw [uh HD]
 go_wp2_with fail
 have hA : Hid (∀ j (h : j < Zbv.size), Tk.signs[j]? = some (Zbv[j].toNat : Int)) := Zex
 have hAs : Zbv.size = 15 := Zdr
 rw [show (⟨#[123, 125, 40, 41, 91, 93, 59, 44, 61, 43, 45, 42, 47, 37, 60]⟩ : ByteArray) = Zbv from rfl]
 generalize Zbv = A at *
 generalize (s[i].toNat : Int) = c at *
 go_loop [9] (fun v => ∃ j : Nat, j ≤ 15 ∧ v = .int .i64 j ∧ ∀ q : Nat, q < j → Tk.signs[q]? ≠ some c) (fun v => 15 - (intOf v).toNat)
 case atStart => exact ⟨0, by omega, rfl, fun q hq => by omega⟩
 case round =>
  obtain ⟨j, hj, rfl, hall⟩ := hrel
  have HA := Hd hall
  clear hall
  by_cases hlt : j < A.size
  · have hj0 : (0 : Int) ≤ (j : Int) := by omega
    have hj1 : (j : Int) < (A.size : Int) := by omega
    have hj15 : j < 15 := by omega
    have hat := (uh hA) j hlt
    cases hq : ((A[j].toNat : Int) == c)
    · have hne : Hid (Tk.signs[j]? ≠ some c) := by
       show _ ≠ _
       rw [hat]; intro e; injection e with e; rw [beq_eq_false_iff_ne] at hq; exact hq e
      clear hat
      go_wp2_with fail
      go_round
      case rel =>
       refine ⟨j + 1, by omega, by go_num, fun q hq2 => ?_⟩
       by_cases e : q = j
       · subst e; exact uh hne
       exact (uh HA) q (by omega)
      case measure => simp [intOf]; omega
    have hc : Tk.isSign c = true := Zeu j c (by rw [hat]; rw [beq_iff_eq] at hq; rw [hq])
    have hk := uh HK
    have hn := uh HN
    rw [hc, if_pos rfl] at hk hn
    subst hk hn
    clear hat hc
    go_wp2_with fail
    go_ret2
    exact ⟨rfl, rfl⟩
  have hj15 : j = 15 := by omega
  subst hj15
  have hc : Tk.isSign c = false := ZeA c (uh HA)
  have hk := uh HK
  have hn := uh HN
  rw [hc] at hk hn
  simp only [Zb, if_false] at hk hn
  subst hk hn
  clear hc
  go_wp2_with fail
  go_ret2
  exact ⟨rfl, rfl⟩
theorem Zil (s : ByteArray) (i : Nat) (w : World) (hs : s.size ≤ maxLen) (hi : i < s.size) (hl : Tk.isL (s[i].toNat : Int) = false) (hd : Tk.isD (s[i].toNat : Int) = false)
  (h1 : ((s[i].toNat : Int) == 61) = true) (hn : ¬ i + 1 < s.size) (K N : Int) (hK : (if Tk.isSign (s[i].toNat : Int) then (3 : Int) else 0) = K) (hN : (if Tk.isSign (s[i].toNat : Int) then (1 : Int) else 0) = N) :
  Calls Tryz.prog 107 #[.string s, .int .i64 i] w fun e w' => e = .returned (.tuple #[.int .i64 K, .int .i64 N]) ∧ w' = w := by
 unfold maxLen at hs
 have HL := Hd hl
 have HD := Hd hd
 have HK := Hd hK
 have HN := Hd hN
 clear hl hd hK hN
 have hi0 : (0 : Int) ≤ (i : Int) := by omega
 have hi1 : (i : Int) < (s.size : Int) := by omega
 have hn1 : ¬ (i : Int) + 1 < (s.size : Int) := by omega
 go_enter Tryz.func107, Tryz.ntmps107
 go_wp2_with fail
 refine (Zbl _ _ (ZbS _) (ZbT _)).mono ?_
 rintro e w' ⟨rfl, rfl⟩
 rw [uh HL]
 go_wp2_with fail
 refine (Zbe _ _ (ZbS _) (ZbT _)).mono ?_
 rintro e w' ⟨rfl, rfl⟩
 rw [uh HD]
 go_wp2_with fail
 have hA : Hid (∀ j (h : j < Zbv.size), Tk.signs[j]? = some (Zbv[j].toNat : Int)) := Zex
 have hAs : Zbv.size = 15 := Zdr
 rw [show (⟨#[123, 125, 40, 41, 91, 93, 59, 44, 61, 43, 45, 42, 47, 37, 60]⟩ : ByteArray) = Zbv from rfl]
 generalize Zbv = A at *
 generalize (s[i].toNat : Int) = c at *
 go_loop [9] (fun v => ∃ j : Nat, j ≤ 15 ∧ v = .int .i64 j ∧ ∀ q : Nat, q < j → Tk.signs[q]? ≠ some c) (fun v => 15 - (intOf v).toNat)
 case atStart => exact ⟨0, by omega, rfl, fun q hq => by omega⟩
 case round =>
  obtain ⟨j, hj, rfl, hall⟩ := hrel
  have HA := Hd hall
  clear hall
  by_cases hlt : j < A.size
  · have hj0 : (0 : Int) ≤ (j : Int) := by omega
    have hj1 : (j : Int) < (A.size : Int) := by omega
    have hj15 : j < 15 := by omega
    have hat := (uh hA) j hlt
    cases hq : ((A[j].toNat : Int) == c)
    · have hne : Hid (Tk.signs[j]? ≠ some c) := by
       show _ ≠ _
       rw [hat]; intro e; injection e with e; rw [beq_eq_false_iff_ne] at hq; exact hq e
      clear hat
      go_wp2_with fail
      go_round
      case rel =>
       refine ⟨j + 1, by omega, by go_num, fun q hq2 => ?_⟩
       by_cases e : q = j
       · subst e; exact uh hne
       exact (uh HA) q (by omega)
      case measure => simp [intOf]; omega
    have hc : Tk.isSign c = true := Zeu j c (by rw [hat]; rw [beq_iff_eq] at hq; rw [hq])
    have hk := uh HK
    have hn := uh HN
    rw [hc, if_pos rfl] at hk hn
    subst hk hn
    clear hat hc
    go_wp2_with fail
    go_ret2
    exact ⟨rfl, rfl⟩
  have hj15 : j = 15 := by omega
  subst hj15
  have hc : Tk.isSign c = false := ZeA c (uh HA)
  have hk := uh HK
  have hn := uh HN
  rw [hc] at hk hn
  simp only [Zb, if_false] at hk hn
  subst hk hn
  clear hc
  go_wp2_with fail
  go_ret2
  exact ⟨rfl, rfl⟩
theorem Zii (s : ByteArray) (i : Nat) (w : World) (hs : s.size ≤ maxLen) (hi : i < s.size) (hl : Tk.isL (s[i].toNat : Int) = false) (hd : Tk.isD (s[i].toNat : Int) = false)
  (h1 : ((s[i].toNat : Int) == 61) = true) (hn : i + 1 < s.size) (h2 : ((s[i + 1].toNat : Int) == 61) = false) (K N : Int) (hK : (if Tk.isSign (s[i].toNat : Int) then (3 : Int) else 0) = K) (hN : (if Tk.isSign (s[i].toNat : Int) then (1 : Int) else 0) = N) :
  Calls Tryz.prog 107 #[.string s, .int .i64 i] w fun e w' => e = .returned (.tuple #[.int .i64 K, .int .i64 N]) ∧ w' = w := by
 unfold maxLen at hs
 have HL := Hd hl
 have HD := Hd hd
 have HK := Hd hK
 have HN := Hd hN
 clear hl hd hK hN
 have hi0 : (0 : Int) ≤ (i : Int) := by omega
 have hi1 : (i : Int) < (s.size : Int) := by omega
 have hn0 : (0 : Int) ≤ (i : Int) + 1 := by omega
 have hn1 : (i : Int) + 1 < (s.size : Int) := by omega
 go_enter Tryz.func107, Tryz.ntmps107
 go_wp2_with fail
 refine (Zbl _ _ (ZbS _) (ZbT _)).mono ?_
 rintro e w' ⟨rfl, rfl⟩
 rw [uh HL]
 go_wp2_with fail
 refine (Zbe _ _ (ZbS _) (ZbT _)).mono ?_
 rintro e w' ⟨rfl, rfl⟩
 rw [uh HD]
 go_wp2_with fail
 have hA : Hid (∀ j (h : j < Zbv.size), Tk.signs[j]? = some (Zbv[j].toNat : Int)) := Zex
 have hAs : Zbv.size = 15 := Zdr
 rw [show (⟨#[123, 125, 40, 41, 91, 93, 59, 44, 61, 43, 45, 42, 47, 37, 60]⟩ : ByteArray) = Zbv from rfl]
 generalize Zbv = A at *
 generalize (s[i].toNat : Int) = c at *
 go_loop [9] (fun v => ∃ j : Nat, j ≤ 15 ∧ v = .int .i64 j ∧ ∀ q : Nat, q < j → Tk.signs[q]? ≠ some c) (fun v => 15 - (intOf v).toNat)
 case atStart => exact ⟨0, by omega, rfl, fun q hq => by omega⟩
 case round =>
  obtain ⟨j, hj, rfl, hall⟩ := hrel
  have HA := Hd hall
  clear hall
  by_cases hlt : j < A.size
  · have hj0 : (0 : Int) ≤ (j : Int) := by omega
    have hj1 : (j : Int) < (A.size : Int) := by omega
    have hj15 : j < 15 := by omega
    have hat := (uh hA) j hlt
    cases hq : ((A[j].toNat : Int) == c)
    · have hne : Hid (Tk.signs[j]? ≠ some c) := by
       show _ ≠ _
       rw [hat]; intro e; injection e with e; rw [beq_eq_false_iff_ne] at hq; exact hq e
      clear hat
      go_wp2_with fail
      go_round
      case rel =>
       refine ⟨j + 1, by omega, by go_num, fun q hq2 => ?_⟩
       by_cases e : q = j
       · subst e; exact uh hne
       exact (uh HA) q (by omega)
      case measure => simp [intOf]; omega
    have hc : Tk.isSign c = true := Zeu j c (by rw [hat]; rw [beq_iff_eq] at hq; rw [hq])
    have hk := uh HK
    have hn := uh HN
    rw [hc, if_pos rfl] at hk hn
    subst hk hn
    clear hat hc
    go_wp2_with fail
    go_ret2
    exact ⟨rfl, rfl⟩
  have hj15 : j = 15 := by omega
  subst hj15
  have hc : Tk.isSign c = false := ZeA c (uh HA)
  have hk := uh HK
  have hn := uh HN
  rw [hc] at hk hn
  simp only [Zb, if_false] at hk hn
  subst hk hn
  clear hc
  go_wp2_with fail
  go_ret2
  exact ⟨rfl, rfl⟩
theorem Zgt (s : ByteArray) (i : Nat) (w : World) (hs : s.size ≤ maxLen) (hi : i < s.size) :
  Calls Tryz.prog 107 #[.string s, .int .i64 i] w fun e w' => e = .returned (.tuple #[.int .i64 ((Tk.tokK ((Tk.B s).drop i) : Nat) : Int), .int .i64 ((Tk.tokN ((Tk.B s).drop i) : Nat) : Int)]) ∧ w' = w := by
 have hd := Tk.B_drop s i hi
 rw [hd, Tk.tokK_cons, Tk.tokN_cons]
 cases h1 : Tk.isL (s[i].toNat : Int)
 · cases h2 : Tk.isD (s[i].toNat : Int)
   · have key : ∀ (h : ((s[i].toNat : Int) == 61 && ((Tk.B s).drop (i + 1)).head? == some 61) = false),
       (((if false = true then 1 else if false = true then 2 else if ((s[i].toNat : Int) == 61 && ((Tk.B s).drop (i + 1)).head? == some 61) = true then 3 else if Tk.isSign (s[i].toNat : Int) = true then 3 else 0 : Nat)) : Int) = (if Tk.isSign (s[i].toNat : Int) then (3 : Int) else 0) ∧
       (((if false = true then Tk.run Tk.isLD ((Tk.B s).drop (i + 1)) + 1 else if false = true then Tk.run Tk.isD ((Tk.B s).drop (i + 1)) + 1 else if ((s[i].toNat : Int) == 61 && ((Tk.B s).drop (i + 1)).head? == some 61) = true then 2 else if Tk.isSign (s[i].toNat : Int) = true then 1 else 0 : Nat)) : Int) = (if Tk.isSign (s[i].toNat : Int) then (1 : Int) else 0) := by
      intro h
      rw [h]
      cases Tk.isSign (s[i].toNat : Int) <;> exact ⟨rfl, rfl⟩
     cases h3 : ((s[i].toNat : Int) == 61)
     · obtain ⟨k1, k2⟩ := key (by rw [h3]; rfl)
       rw [h3] at k1 k2
       exact ZiA s i w hs hi h1 h2 h3 _ _ k1.symm k2.symm
     by_cases hn : i + 1 < s.size
     · have hd2 := Tk.B_drop s (i + 1) hn
       cases h4 : ((s[i + 1].toNat : Int) == 61)
       · have hh : (((Tk.B s).drop (i + 1)).head? == some 61) = false := by
          rw [hd2, List.head?_cons]
          rw [beq_eq_false_iff_ne] at h4 ⊢
          intro e; injection e with e; exact h4 e
         obtain ⟨k1, k2⟩ := key (by rw [h3, hh]; rfl)
         rw [h3] at k1 k2
         exact Zii s i w hs hi h1 h2 h3 hn h4 _ _ k1.symm k2.symm
       have hh : (((Tk.B s).drop (i + 1)).head? == some 61) = true := by
        rw [hd2, List.head?_cons]
        rw [beq_iff_eq] at h4 ⊢
        rw [h4]
       rw [hh]
       exact Zkn s i w hs hi h1 h2 h3 hn h4
     have hh : (((Tk.B s).drop (i + 1)).head? == some 61) = false := by rw [Tk.B_drop_end s (i + 1) (by omega)]; rfl
     obtain ⟨k1, k2⟩ := key (by rw [h3, hh]; rfl)
     rw [h3] at k1 k2
     exact Zil s i w hs hi h1 h2 h3 hn _ _ k1.symm k2.symm
   simp only [Zb, if_false, if_true]
   exact ZjV s i w hs hi h1 h2
 simp only [if_true]
 exact ZiK s i w hs hi h1
theorem ZjC {P : Program} {K : Act → List Frame → World → Prop} {Q : Exit → Act → List Frame → World → Prop} {a : Act} (a' : Act) {cs : List Frame} {w : World} {id r d : Nat} {ty : TypeId} {pos pos' : String} {af af' : Array Edge}
  (hcs : recoverD cs = none) (ha : (a.put (some r) .nilIface).put (some d) ((a.put (some r) .nilIface).eval (.tmp r)) = a') (h : K a' cs w) :
  (Code.region id #[{ dst := some r, op := .call { callee := .builtin .recover, args := #[], argTypes := #[] }, type := ty, pos := pos, after := af, guard := none },
   { dst := some d, op := .assign (.tmp r), type := ty, pos := pos', after := af', guard := none }] false).wpS P (Exit.thenS K Q) a cs w := by
 subst ha
 apply wpS_region
 simp [wpOpsS, go_sem, hcs, Exit.thenS]
 simpa [go_sem] using h
theorem ZjD {P : Program} {K : Act → List Frame → World → Prop} {Q : Exit → Act → List Frame → World → Prop} {a : Act} (a' : Act) {cs cs' : List Frame} {w : World} {id r d : Nat} {ty : TypeId} {pos pos' : String} {af af' : Array Edge} {v : Value}
  (hcs : recoverD cs = some (v, cs')) (ha : (a.put (some r) v).put (some d) ((a.put (some r) v).eval (.tmp r)) = a') (h : K a' cs' w) :
  (Code.region id #[{ dst := some r, op := .call { callee := .builtin .recover, args := #[], argTypes := #[] }, type := ty, pos := pos, after := af, guard := none },
   { dst := some d, op := .assign (.tmp r), type := ty, pos := pos', after := af', guard := none }] false).wpS P (Exit.thenS K Q) a cs w := by
 subst ha
 apply wpS_region
 simp [wpOpsS, go_sem, hcs, Exit.thenS]
 simpa [go_sem] using h
theorem Zj0 (a b c : Addr) (w : World) :
  CallsD Tryz.prog 66 #[.pointer (some a), .pointer (some b), .pointer (some c)] .returning w fun e u' w' => e = .returned (.tuple #[]) ∧ u' = .returning ∧ w' = w := by
 refine callsD_of_wpS Tryz.func66 rfl fun c₀ cs hu => ?_
 simp only [Tryz.ntmps66, List.size_toArray, Zo, List.length_nil, Nat.reduceAdd, Nat.reduceSub, Array.replicate_succ,
    Array.replicate_zero, List.push_toArray, List.append_toArray, List.nil_append, List.cons_append]
 apply wpS_seq
 refine ZjC ⟨#[.pointer (some a), .pointer (some b), .pointer (some c), .nilIface, undef, undef, .nilIface, undef, undef, undef, undef, undef, undef, undef, undef, undef, undef, undef, undef, undef, undef], []⟩ (by simp [recoverD, hu]) (by simp [go_sem]) ?_
 refine wpS_of_wp ?_
 go_wp2
 cases c₀
 simp_all [bodyPostS, results, Tryz.results66]
theorem ZhO (w : World) (N : Nat) (u0 u1 u2 v0 v1 v2 : Value) (h0 : w.cell? ⟨N, 0, none⟩ = some u0) (h1 : w.cell? ⟨N + 1, 0, none⟩ = some u1) (h2 : w.cell? ⟨N + 2, 0, none⟩ = some u2) :
  (((w.setCell ⟨N, 0, none⟩ v0).setCell ⟨N + 1, 0, none⟩ v1).setCell ⟨N + 2, 0, none⟩ v2).drew.cell? ⟨N, 0, none⟩ = some v0 ∧
  (((w.setCell ⟨N, 0, none⟩ v0).setCell ⟨N + 1, 0, none⟩ v1).setCell ⟨N + 2, 0, none⟩ v2).drew.cell? ⟨N + 1, 0, none⟩ = some v1 ∧
  (((w.setCell ⟨N, 0, none⟩ v0).setCell ⟨N + 1, 0, none⟩ v1).setCell ⟨N + 2, 0, none⟩ v2).drew.cell? ⟨N + 2, 0, none⟩ = some v2 ∧
  Below N w (((w.setCell ⟨N, 0, none⟩ v0).setCell ⟨N + 1, 0, none⟩ v1).setCell ⟨N + 2, 0, none⟩ v2).drew := by
 have a0 := World.cell?_setCell_same w ⟨N, 0, none⟩ v0 h0
 have a1 : (w.setCell ⟨N, 0, none⟩ v0).cell? ⟨N + 1, 0, none⟩ = some u1 := by rw [World.cell?_setCell_other _ _ _ _ (by simp)]; exact h1
 have a2 : (w.setCell ⟨N, 0, none⟩ v0).cell? ⟨N + 2, 0, none⟩ = some u2 := by rw [World.cell?_setCell_other _ _ _ _ (by simp)]; exact h2
 have b0 : ((w.setCell ⟨N, 0, none⟩ v0).setCell ⟨N + 1, 0, none⟩ v1).cell? ⟨N, 0, none⟩ = some v0 := by rw [World.cell?_setCell_other _ _ _ _ (by simp)]; exact a0
 have b1 := World.cell?_setCell_same (w.setCell ⟨N, 0, none⟩ v0) ⟨N + 1, 0, none⟩ v1 a1
 have b2 : ((w.setCell ⟨N, 0, none⟩ v0).setCell ⟨N + 1, 0, none⟩ v1).cell? ⟨N + 2, 0, none⟩ = some u2 := by rw [World.cell?_setCell_other _ _ _ _ (by simp)]; exact a2
 have c0 : (((w.setCell ⟨N, 0, none⟩ v0).setCell ⟨N + 1, 0, none⟩ v1).setCell ⟨N + 2, 0, none⟩ v2).cell? ⟨N, 0, none⟩ = some v0 := by rw [World.cell?_setCell_other _ _ _ _ (by simp)]; exact b0
 have c1 : (((w.setCell ⟨N, 0, none⟩ v0).setCell ⟨N + 1, 0, none⟩ v1).setCell ⟨N + 2, 0, none⟩ v2).cell? ⟨N + 1, 0, none⟩ = some v1 := by rw [World.cell?_setCell_other _ _ _ _ (by simp)]; exact b1
 have c2 := World.cell?_setCell_same ((w.setCell ⟨N, 0, none⟩ v0).setCell ⟨N + 1, 0, none⟩ v1) ⟨N + 2, 0, none⟩ v2 b2
 refine ⟨c0, c1, c2, ?_⟩
 exact (((Zr.setCell (p := ⟨N, 0, none⟩) Zl _).setCell (p := ⟨N + 1, 0, none⟩) (by show N ≤ N + 1; omega) _).setCell (p := ⟨N + 2, 0, none⟩) (by show N ≤ N + 2; omega) _).drew
theorem Zhz (x y : Int) (w : World) : (Instr.typeAssert (.iface 113 (.agg #[.int .i64 x, .int .i64 y])) 20 113 true).run Tryz.prog w = .ok (.tuple #[.agg #[.int .i64 x, .int .i64 y], .bool true]) w := by kernel_rfl
theorem Zja (N : Nat) (at_ : Nat) (why : Int) (w : World) (v0 : Value) (x1 x2 : Int) (hN : N + 3 ≤ w.heap.size)
  (h0 : w.cell? ⟨N, 0, none⟩ = some v0) (f0 : w.frozen? ⟨N, 0, none⟩ = false)
  (h1 : w.cell? ⟨N + 1, 0, none⟩ = some (.int .i64 x1)) (f1 : w.frozen? ⟨N + 1, 0, none⟩ = false)
  (h2 : w.cell? ⟨N + 2, 0, none⟩ = some (.int .i64 x2)) (f2 : w.frozen? ⟨N + 2, 0, none⟩ = false) :
  CallsD Tryz.prog 66 #[.pointer (some ⟨N, 0, none⟩), .pointer (some ⟨N + 1, 0, none⟩), .pointer (some ⟨N + 2, 0, none⟩)] (.panicking (ZbO at_ why)) w fun e u' w' =>
   e = .returned (.tuple #[]) ∧ u' = .panicking [{ v := .iface 113 (.agg #[.int .i64 (at_ : Int), .int .i64 why]), recovered := true }] ∧
   (w'.cell? ⟨N, 0, none⟩ = some (.slice none 0 0) ∧ w'.cell? ⟨N + 1, 0, none⟩ = some (.int .i64 at_) ∧ w'.cell? ⟨N + 2, 0, none⟩ = some (.int .i64 why) ∧ Below N w w') := by
 refine callsD_of_wpS Tryz.func66 rfl fun c₀ cs hu => ?_
 simp only [Tryz.ntmps66, List.size_toArray, Zo, List.length_nil, Nat.reduceAdd, Nat.reduceSub, Array.replicate_succ,
    Array.replicate_zero, List.push_toArray, List.append_toArray, List.nil_append, List.cons_append]
 apply wpS_seq
 refine ZjD (v := .iface 113 (.agg #[.int .i64 (at_ : Int), .int .i64 why])) (cs' := { c₀ with mode := .panicking [{ v := .iface 113 (.agg #[.int .i64 (at_ : Int), .int .i64 why]), recovered := true }] } :: cs)
  ⟨#[.pointer (some ⟨N, 0, none⟩), .pointer (some ⟨N + 1, 0, none⟩), .pointer (some ⟨N + 2, 0, none⟩), .iface 113 (.agg #[.int .i64 (at_ : Int), .int .i64 why]), undef, undef, .iface 113 (.agg #[.int .i64 (at_ : Int), .int .i64 why]), undef, undef, undef, undef, undef, undef, undef, undef, undef, undef, undef, undef, undef, undef], []⟩
  (by simp [recoverD, hu, ZbO]) (by simp [go_sem]) ?_
 refine wpS_of_wp ?_
 have hta := Zhz
 have hW : ∀ o, Below w.heap.size w (w.alloc o) := fun o => Zr.alloc Zl o
 have g0 : ∀ o, (w.alloc o).cell? ⟨N, 0, none⟩ = some v0 := fun o => ((hW o).cell (p := ⟨N, 0, none⟩) (by show N < _; omega)).trans h0
 have g1 : ∀ o, (w.alloc o).cell? ⟨N + 1, 0, none⟩ = some (.int .i64 x1) := fun o => ((hW o).cell (p := ⟨N + 1, 0, none⟩) (by show N + 1 < _; omega)).trans h1
 have g2 : ∀ o, (w.alloc o).cell? ⟨N + 2, 0, none⟩ = some (.int .i64 x2) := fun o => ((hW o).cell (p := ⟨N + 2, 0, none⟩) (by show N + 2 < _; omega)).trans h2
 have k0 : ∀ o, (w.alloc o).frozen? ⟨N, 0, none⟩ = false := fun o => ((hW o).frozen (p := ⟨N, 0, none⟩) (by show N < _; omega)).trans f0
 have k1 : ∀ o, (w.alloc o).frozen? ⟨N + 1, 0, none⟩ = false := fun o => ((hW o).frozen (p := ⟨N + 1, 0, none⟩) (by show N + 1 < _; omega)).trans f1
 have k2 : ∀ o, (w.alloc o).frozen? ⟨N + 2, 0, none⟩ = false := fun o => ((hW o).frozen (p := ⟨N + 2, 0, none⟩) (by show N + 2 < _; omega)).trans f2
 have e0 : ¬ N = w.heap.size := by omega
 have e1 : ¬ N + 1 = w.heap.size := by omega
 have e2 : ¬ N + 2 = w.heap.size := by omega
 have hA := Hd (hW (.cells #[.int .i64 at_, .int .i64 why] 113))
 clear hW
 go_wp2
 go_region
 obtain ⟨c0, c1, c2, hb⟩ := ZhO (w.alloc (.cells #[.int .i64 at_, .int .i64 why] 113)) N _ _ _ (.slice none 0 0) (.int .i64 at_) (.int .i64 why) (g0 _) (g1 _) (g2 _)
 exact ⟨rfl, _, rfl, _, by simp [results, Tryz.results66], rfl, rfl, c0, c1, c2, ((uh hA).mono (by omega)).trans hb⟩
def Tk.cells (s : ByteArray) (l : List (Nat × Nat × Nat)) : List Value :=
 l.flatMap fun t => [.int .i64 (t.1 : Int), .int .i64 (t.2.1 : Int), .string (s.extract t.2.1 (t.2.1 + t.2.2))]
theorem ZcI : (Tryz.prog.info? 63).map (fun i => (i.zero, i.size, i.bytes)) = some (some (.agg #[.int .i64 0, .int .i64 0, .string ⟨#[]⟩]), 3, 32) := by kernel_rfl
structure Tk.SI (s : ByteArray) (w wr : World) (acc : List (Nat × Nat × Nat)) (ad : Option Addr) (cap : Nat) : Prop where
 c0 : wr.cell? ⟨w.heap.size, 0, none⟩ = some (.slice ad acc.length cap)
 f0 : wr.frozen? ⟨w.heap.size, 0, none⟩ = false
 c1 : wr.cell? ⟨w.heap.size + 1, 0, none⟩ = some (.int .i64 0)
 f1 : wr.frozen? ⟨w.heap.size + 1, 0, none⟩ = false
 c2 : wr.cell? ⟨w.heap.size + 1 + 1, 0, none⟩ = some (.int .i64 0)
 f2 : wr.frozen? ⟨w.heap.size + 1 + 1, 0, none⟩ = false
 own : wr.ownsRow (w.heap.size + 3) 63 3 (.slice ad acc.length cap) acc.length (Tk.cells s acc)
 below : Below w.heap.size w wr
 size : w.heap.size + 3 ≤ wr.heap.size
theorem Zb6 (s : ByteArray) (l : List (Nat × Nat × Nat)) (K k n : Nat) :
  Tk.cells s (l ++ [(K, k, n)]) = Tk.cells s l ++ [.int .i64 (K : Int), .int .i64 (k : Int), .string (s.extract k (k + n))] := by simp [Tk.cells]
theorem Tk.SI.first (s : ByteArray) (w : World) :
  Tk.SI s w (((w.alloc (.cells #[.slice none 0 0] 31)).alloc (.cells #[.int .i64 0] 3)).alloc (.cells #[.int .i64 0] 26)) [] none 0 := by
 refine ⟨?_, ?_, ?_, ?_, ?_, ?_, World.ownsRow_nil _ _ _ _, ?_, by simp⟩
 all_goals first | exact ((Zr.alloc Zl _).alloc (by simp) _).alloc (by simp; omega) _ | simp [go_sem]
theorem Tk.SI.next {s : ByteArray} {w w1 : World} {acc : List (Nat × Nat × Nat)} {K k n g cap' : Nat} {u : Value}
  (q0 : w1.cell? ⟨w.heap.size, 0, none⟩ = some u) (q1 : w1.cell? ⟨w.heap.size + 1, 0, none⟩ = some (.int .i64 0)) (q2 : w1.cell? ⟨w.heap.size + 1 + 1, 0, none⟩ = some (.int .i64 0))
  (z0 : w1.frozen? ⟨w.heap.size, 0, none⟩ = false) (z1 : w1.frozen? ⟨w.heap.size + 1, 0, none⟩ = false) (z2 : w1.frozen? ⟨w.heap.size + 1 + 1, 0, none⟩ = false)
  (ho : w1.ownsRow (w.heap.size + 3) 63 3 (.slice (some ⟨g, 0, none⟩) (acc.length + 1) cap') (acc.length + 1) (Tk.cells s acc ++ [.int .i64 (K : Int), .int .i64 (k : Int), .string (s.extract k (k + n))]))
  (hb : Below w.heap.size w w1) (hs : w.heap.size + 3 ≤ w1.heap.size) :
  Tk.SI s w (w1.setCell ⟨w.heap.size, 0, none⟩ (.slice (some ⟨g, 0, none⟩) (acc.length + 1) cap')) (acc ++ [(K, k, n)]) (some ⟨g, 0, none⟩) cap' := by
 have hl : (acc ++ [(K, k, n)]).length = acc.length + 1 := by simp
 refine ⟨?_, ?_, ?_, ?_, ?_, ?_, ?_, hb.setCell (p := ⟨w.heap.size, 0, none⟩) Zl _, by simpa using hs⟩
 · rw [hl]; exact World.cell?_setCell_same _ _ _ q0
 · rw [World.frozen?_setCell]; exact z0
 · rw [World.cell?_setCell_other _ _ _ _ (by simp)]; exact q1
 · rw [World.frozen?_setCell]; exact z1
 · rw [World.cell?_setCell_other _ _ _ _ (by simp)]; exact q2
 · rw [World.frozen?_setCell]; exact z2
 rw [hl, Zb6]; exact ownsRow_setCell_below ho (by show w.heap.size < _; omega) _
theorem Tk.SI.last {s : ByteArray} {w wr : World} {acc : List (Nat × Nat × Nat)} {ad : Option Addr} {cap : Nat} (h : Tk.SI s w wr acc ad cap) {W : World}
  (hW : ((wr.setCell ⟨w.heap.size, 0, none⟩ (.slice ad acc.length cap)).setCell ⟨w.heap.size + 1, 0, none⟩ (.int .i64 0)).setCell ⟨w.heap.size + 1 + 1, 0, none⟩ (.int .i64 0) = W) :
  W.cell? ⟨w.heap.size, 0, none⟩ = some (.slice ad acc.length cap) ∧ W.cell? ⟨w.heap.size + 1, 0, none⟩ = some (.int .i64 0) ∧ W.cell? ⟨w.heap.size + 1 + 1, 0, none⟩ = some (.int .i64 0) ∧
   W.ownsRow (w.heap.size + 3) 63 3 (.slice ad acc.length cap) acc.length (Tk.cells s acc) ∧ Below w.heap.size w W := by
 obtain ⟨d0, d1, d2, _⟩ := ZhO wr w.heap.size _ _ _ (.slice ad acc.length cap) (.int .i64 0) (.int .i64 0) h.c0 h.c1 h.c2
 subst hW
 refine ⟨d0, d1, d2, ?_, ?_⟩
 · exact ownsRow_setCell_below (ownsRow_setCell_below (ownsRow_setCell_below h.own (by show w.heap.size < _; omega) _) (by show w.heap.size + 1 < _; omega) _) (by show w.heap.size + 1 + 1 < _; omega) _
 exact ((h.below.setCell (p := ⟨w.heap.size, 0, none⟩) Zl _).setCell (p := ⟨w.heap.size + 1, 0, none⟩) (by show w.heap.size ≤ w.heap.size + 1; omega) _).setCell (p := ⟨w.heap.size + 1 + 1, 0, none⟩) (by show w.heap.size ≤ w.heap.size + 1 + 1; omega) _
theorem Zg8 {w w' : World} {B b : Nat} {e : TypeId} {size : Nat} {v : Value} {n : Nat} {xs : List Value} (h : w.ownsRow b e size v n xs) (hb : Below B w w') (hB : w.heap.size ≤ B) : w'.ownsRow b e size v n xs := by
 refine ⟨h.1, ?_⟩
 rcases h.2 with h2 | ⟨g, cap, cur, hv, hg, hh, r⟩
 · exact .inl h2
 refine .inr ⟨g, cap, cur, hv, hg, ?_, r⟩
 rw [hb.block g (by have := (Array.getElem?_eq_some_iff.1 hh).1; omega)]
 exact hh
theorem Zbw (s : ByteArray) (k n : Nat) (h : k + n ≤ s.size) : (s.extract k (k + n)).size = n := by
 rw [ByteArray.size_extract]; omega
theorem Zh4 {w' w1 : World} {N M : Nat} {o : Array Value} {row : Option Nat} {v0 v1 v2 : Value}
  (hgrow : ((w'.alloc (.cells o 63)).alloc (.cells o 63)).grownBy w1 row) (hrow : ∀ q, row = some q → N + 3 ≤ q ∧ q < M) (hN : N + 3 ≤ M) (hM : M ≤ w'.heap.size)
  (g0 : w'.cell? ⟨N, 0, none⟩ = some v0) (g1 : w'.cell? ⟨N + 1, 0, none⟩ = some v1) (g2 : w'.cell? ⟨N + 1 + 1, 0, none⟩ = some v2)
  (k0 : w'.frozen? ⟨N, 0, none⟩ = false) (k1 : w'.frozen? ⟨N + 1, 0, none⟩ = false) (k2 : w'.frozen? ⟨N + 1 + 1, 0, none⟩ = false) :
  (w1.cell? ⟨N, 0, none⟩ = some v0 ∧ w1.cell? ⟨N + 1, 0, none⟩ = some v1 ∧ w1.cell? ⟨N + 1 + 1, 0, none⟩ = some v2) ∧
  (w1.frozen? ⟨N, 0, none⟩ = false ∧ w1.frozen? ⟨N + 1, 0, none⟩ = false ∧ w1.frozen? ⟨N + 1 + 1, 0, none⟩ = false) ∧
  (∀ j, w1.cell? ⟨w'.heap.size, j, none⟩ = o[j]?) := by
 have far : ∀ b, b < N + 3 → some b ≠ row := fun b hb e => by have := hrow b e.symm; omega
 have farM : some w'.heap.size ≠ row := fun e => by have := hrow _ e.symm; omega
 have hs : ((w'.alloc (.cells o 63)).alloc (.cells o 63)).heap.size = w'.heap.size + 1 + 1 := by simp
 have cl : ∀ b, b < N + 3 → w1.cell? ⟨b, 0, none⟩ = w'.cell? ⟨b, 0, none⟩ := fun b hb => by
  rw [hgrow.cell_far ⟨b, 0, none⟩ (by show b < _; omega) (far b hb), World.cell?_alloc_past _ _ _ (by simp; omega), World.cell?_alloc_past _ _ _ (by omega)]
 have fz : ∀ b, b < N + 3 → w1.frozen? ⟨b, 0, none⟩ = w'.frozen? ⟨b, 0, none⟩ := fun b hb => by
  rw [hgrow.frozen_far ⟨b, 0, none⟩ (by show b < _; omega) (far b hb), World.frozen?_alloc_past _ _ _ (by simp; omega), World.frozen?_alloc_past _ _ _ (by omega)]
 refine ⟨⟨(cl _ (by omega)).trans g0, (cl _ (by omega)).trans g1, (cl _ (by omega)).trans g2⟩, ⟨(fz _ (by omega)).trans k0, (fz _ (by omega)).trans k1, (fz _ (by omega)).trans k2⟩, fun j => ?_⟩
 rw [hgrow.cell_far ⟨w'.heap.size, j, none⟩ (by show w'.heap.size < _; omega) farM, World.cell?_alloc_past _ _ _ (by simp)]
 simp
theorem Ziw {w : World} {b b' : Nat} {e : TypeId} {size : Nat} {v : Value} {n : Nat} {xs : List Value} (h : w.ownsRow b e size v n xs) (hb : b' ≤ b) : w.ownsRow b' e size v n xs := by
 refine ⟨h.1, ?_⟩
 rcases h.2 with h2 | ⟨g, cap, cur, hv, hg, r⟩
 · exact .inl h2
 exact .inr ⟨g, cap, cur, hv, by omega, r⟩
theorem Zly (s : ByteArray) (w : World) (hs : s.size ≤ 6000) (R : List (Nat × Nat × Nat) × Nat × Nat) (hR : Tk.scl (Tk.B s) 0 0 false [] = R) :
  Calls Tryz.prog 33 #[.string s] w fun e w' => ∃ v, e = .returned (.tuple #[v, .int .i64 (R.2.1 : Int), .int .i64 (R.2.2 : Int)]) ∧ w'.ownsRow w.heap.size 63 3 v R.1.length (Tk.cells s R.1) ∧ Below w.heap.size w w' := by
 have hmf : ∀ (fn : Fn) (first cap : Array Value) (w : World), (Instr.makeFunc fn first cap).run Tryz.prog w = .ok (.func fn first cap) w := fun _ _ _ _ => rfl
 have hml : s.size ≤ maxLen := by unfold maxLen; omega
 have HM := Hd hml
 have HR := Hd hR
 clear hml hR
 go_enter_defers Tryz.func33, Tryz.ntmps33
 go_wp2_with fail
 refine (Zef s 0 _ (uh HM) (Nat.zero_le _)).mono ?_
 rintro e w' ⟨rfl, rfl⟩
 go_wp2_with fail
 go_loopw [5] (fun iv wr => ∃ (k : Nat) (acc : List (Nat × Nat × Nat)) (ad : Option Addr) (cap : Nat), k ≤ s.size ∧ iv = .int .i64 k ∧ acc.length ≤ k ∧ Tk.gap false ((Tk.B s).drop k) = 0 ∧
   Tk.scl ((Tk.B s).drop k) k 0 false acc = R ∧ Tk.SI s w wr acc ad cap) (fun iv _ => s.size - (intOf iv).toNat)
 case atStart =>
  refine ⟨Tk.gap false (Tk.B s), [], none, 0, ?_, rfl, by simp, ?_, ?_, ?_⟩
  · have := ZeJ s 0 (Nat.zero_le _); simpa using this
  · exact Tk.gap_gap (Tk.B s) false
  · have := Tk.scl_gap (Tk.B s) 0 false []; rw [uh HR] at this; simpa using this.symm
  exact Tk.SI.first s w
 case round =>
  obtain ⟨k, acc, ad, cap, hk, rfl, hacc, hgap, hscl, hSI⟩ := hrel
  have HG := Hd hgap
  have HSC := Hd hscl
  clear hgap hscl HR
  have HI := Hd hSI
  obtain ⟨c0, f0, c1, f1, c2, f2, own, below, size⟩ := hSI
  have HO := Hd own
  have HB := Hd below
  clear own below
  by_cases hlt : k < s.size
  · by_cases hbad : Tk.bad ((Tk.B s).drop k) = 0
    · have HBD := Hd hbad
      clear hbad
      go_wp2_with fail
      refine (ZkD s k _ (uh HM) hlt (uh HBD)).mono ?_
      rintro e w' ⟨rfl, hb⟩
      obtain ⟨hc, hf⟩ := Zky hb
      have hsz := hb.size
      have g0 := hc w.heap.size 0 (by omega)
      rw [c0] at g0
      have g1 := hc (w.heap.size + 1) 0 (by omega)
      rw [c1] at g1
      have g2 := hc (w.heap.size + 1 + 1) 0 (by omega)
      rw [c2] at g2
      have k0 := hf w.heap.size 0 (by omega)
      rw [f0] at k0
      have k1 := hf (w.heap.size + 1) 0 (by omega)
      rw [f1] at k1
      have k2 := hf (w.heap.size + 1 + 1) 0 (by omega)
      rw [f2] at k2
      clear hc hf
      generalize hK : Tk.tokK ((Tk.B s).drop k) = K at *
      generalize hn : Tk.tokN ((Tk.B s).drop k) = n at *
      have HK := Hd hK
      have HN := Hd hn
      clear hK hn
      have hb' := Hd hb
      clear hb
      unfold Zbc
      have lt0 : w.heap.size < w'.heap.size := by omega
      have lt1 : w.heap.size + 1 < w'.heap.size := by omega
      have lt2 : w.heap.size + 1 + 1 < w'.heap.size := by omega
      obtain ⟨i0, hi0, hz0, hz1, hz2⟩ := info_parts ZcI
      have hown := ((Zg8 (uh HO) (uh hb') Zl).alloc (.cells #[.int .i64 (K : Int), .int .i64 (k : Int), .string (s.extract k (k + n))] 63)).alloc (.cells #[.int .i64 (K : Int), .int .i64 (k : Int), .string (s.extract k (k + n))] 63)
      have HOW := Hd hown
      clear hown
      have hown0 : ∀ q, (Value.slice ad acc.length cap).ownBlock = some q → w.heap.size + 3 ≤ q ∧ q < wr.heap.size := (uh HO).lt
      have hblk : ((w'.alloc (.cells #[.int .i64 (K : Int), .int .i64 (k : Int), .string (s.extract k (k + n))] 63)).alloc (.cells #[.int .i64 (K : Int), .int .i64 (k : Int), .string (s.extract k (k + n))] 63)).heap[w'.heap.size + 1]? = some (.cells #[.int .i64 (K : Int), .int .i64 (k : Int), .string (s.extract k (k + n))] 63 (0, 0)) := by
       have := heap_alloc_new (w'.alloc (.cells #[.int .i64 (K : Int), .int .i64 (k : Int), .string (s.extract k (k + n))] 63)) (.cells #[.int .i64 (K : Int), .int .i64 (k : Int), .string (s.extract k (k + n))] 63)
       rw [World.size_alloc] at this
       exact this
      have HBK := Hd hblk
      have HI0 := Hd hi0
      have hn1 : k + n ≤ s.size := by
       have := Tk.tokN_le ((Tk.B s).drop k)
       rw [uh HN, List.length_drop, Tk.B_length] at this; omega
      have hex := Zbw s k n hn1
      clear hblk hi0
      go_wp2_with (at_builtin; refine wpList_append_lies _ (by rfl) _ _ _ (by rfl) (w.heap.size + 3) 63 i0 _ 3 32 Tryz.underlying31 (uh HI0) hz0 hz1 hz2 rfl (by omega) (.slice ad acc.length cap) acc.length (Tk.cells s acc) (by rfl) (uh HOW) ⟨w'.heap.size + 1, 0, none⟩ 1 1 [.int .i64 (K : Int), .int .i64 (k : Int), .string (s.extract k (k + n))] (by rfl) (by rfl) (World.news_of_block (uh HBK)) (by simp [Value.oneCell']) (by omega) (by unfold maxLen; omega) (by omega) (by simp; omega) (w'.heap.size + 1 + 1) (by simp) ?_; intro g cap' w1 hown1 hgrow hat hlt1; obtain ⟨⟨q0, q1, q2⟩, ⟨z0, z1, z2⟩, qt⟩ := Zh4 hgrow hown0 size hsz g0 g1 g2 k0 k1 k2; have HO1 := Hd hown1; have HG1 := Hd hgrow; have HA := Hd hat; have hq2 := qt 2; clear qt hown1 hgrow hat)
      rw [show (k : Int) + (n : Int) = ((k + n : Nat) : Int) from by omega]
      refine (Zef s (k + n) _ (uh HM) hn1).mono ?_
      rintro e w2 ⟨rfl, rfl⟩
      go_wp2_with fail
      have hgb := ZeJ s (k + n) hn1
      have hg0 := uh HG
      rw [Tk.B_drop s k hlt] at hg0
      have hbd := uh HBD
      rw [Tk.B_drop s k hlt] at hbd
      have hst := Tk.scl_tok _ ((Tk.B s).drop (k + 1)) k acc ((Tk.gap_free _ _).1 hg0) hbd
      have hpos := Tk.tokN_pos _ _ hbd
      rw [← Tk.B_drop s k hlt, uh HN] at hpos
      rw [← Tk.B_drop s k hlt, uh HSC, uh HN, uh HK, List.drop_drop, Tk.scl_gap, List.drop_drop] at hst
      have hs1 := (uh HG1).size
      simp at hs1
      have b1 : Below w.heap.size w w' := (uh HB).trans ((uh hb').mono (by omega))
      have b3 := ((b1.alloc (by omega) _).alloc (by simp; omega) _).grown (uh HG1) (by simp; omega) (fun q hq => by have := hown0 q hq; omega)
      refine ⟨⟨k + n + Tk.gap false ((Tk.B s).drop (k + n)), acc ++ [(K, k, n)], some ⟨g, 0, none⟩, cap', hgb, by go_num, by simp; omega, ?_, hst.symm, Tk.SI.next q0 q1 q2 z0 z1 z2 (uh HO1) b3 (by omega)⟩, by simp [intOf]; omega⟩
      rw [← List.drop_drop]
      exact Tk.gap_gap _ false
    have HBD := Hd hbad
    clear hbad
    go_wp2_with fail
    refine (Ziz s k _ (uh HM) hlt (uh HBD)).mono ?_
    rintro e w' ⟨rfl, hb⟩
    obtain ⟨hc, hf⟩ := Zky hb
    have hsz := hb.size
    have g0 := hc w.heap.size 0 (by omega)
    rw [c0] at g0
    have g1 := hc (w.heap.size + 1) 0 (by omega)
    rw [c1] at g1
    have g2 := hc (w.heap.size + 1 + 1) 0 (by omega)
    rw [c2] at g2
    have k0 := hf w.heap.size 0 (by omega)
    rw [f0] at k0
    have k1 := hf (w.heap.size + 1) 0 (by omega)
    rw [f1] at k1
    have k2 := hf (w.heap.size + 1 + 1) 0 (by omega)
    rw [f2] at k2
    go_wp2_with fail
    refine leaves_cons (f := 66) (args := #[.pointer (some ⟨w.heap.size, 0, none⟩), .pointer (some ⟨w.heap.size + 1, 0, none⟩), .pointer (some ⟨w.heap.size + 1 + 1, 0, none⟩)]) (by simp) (by simp [go_sem]) ?_
    refine (Zja w.heap.size k _ w' _ _ _ (by omega) g0 k0 g1 k1 g2 k2).mono ?_
    rintro e u' w'' ⟨rfl, rfl, d0, d1, d2, hb2⟩
    simp [Leaves, settle, results, Tryz.results33, go_sem, d0, d1, d2]
    have hR := uh HSC
    rw [Tk.B_drop s k hlt] at hR
    have hg0 := uh HG
    rw [Tk.B_drop s k hlt] at hg0
    have hbd := uh HBD
    rw [Tk.B_drop s k hlt] at hbd
    rw [Tk.scl_bad _ _ _ _ ((Tk.gap_free _ _).1 hg0) hbd, ← Tk.B_drop s k hlt] at hR
    subst hR
    exact ⟨_, ⟨rfl, rfl, rfl⟩, World.ownsRow_nil _ _ _ _, ((uh HB).trans (hb.mono (by omega))).trans hb2⟩
  go_wp2_with fail
  generalize hW : ((wr.setCell ⟨w.heap.size, 0, none⟩ (.slice ad acc.length cap)).setCell ⟨w.heap.size + 1, 0, none⟩ (.int .i64 0)).setCell ⟨w.heap.size + 1 + 1, 0, none⟩ (.int .i64 0) = W
  obtain ⟨d0, d1, d2, ho, hb2⟩ := (uh HI).last hW
  clear hW
  refine leaves_cons (f := 66) (args := #[.pointer (some ⟨w.heap.size, 0, none⟩), .pointer (some ⟨w.heap.size + 1, 0, none⟩), .pointer (some ⟨w.heap.size + 1 + 1, 0, none⟩)]) (by simp) (by simp [go_sem]) ?_
  refine (Zj0 _ _ _ _).mono ?_
  rintro e u' w'' ⟨rfl, rfl, rfl⟩
  simp [Leaves, settle, results, Tryz.results33, go_sem, d0, d1, d2]
  have hR := uh HSC
  rw [Tk.B_drop_end s k (by omega), Tk.scl_nil] at hR
  subst hR
  exact ⟨_, ⟨rfl, rfl, rfl⟩, Ziw ho (by omega), hb2⟩
def Zah (s : ByteArray) : List (Nat × Nat × Nat) × Nat × Nat := if 6000 < s.size then ([], 0, 2) else Tk.scl (Tk.B s) 0 0 false []
theorem ZdC (s : ByteArray) (w : World) (hs : s.size ≤ maxLen) :
  Calls Tryz.prog 14 #[.string s] w fun e w' => ∃ v, e = .returned (.tuple #[v, .int .i64 ((Zah s).2.1 : Int), .int .i64 ((Zah s).2.2 : Int)]) ∧ w'.ownsRow w.heap.size 63 3 v (Zah s).1.length (Tk.cells s (Zah s).1) ∧ Below w.heap.size w w' := by
 unfold maxLen at hs
 by_cases h : 6000 < s.size
 · have hR : Zah s = ([], 0, 2) := by simp [Zah, h]
   rw [hR]
   clear hR
   go_enter Tryz.func14, Tryz.ntmps14
   go_wp2_with fail
   go_ret3
   exact ⟨_, rfl, World.ownsRow_nil _ _ _ _, Zr⟩
 have hR : Tk.scl (Tk.B s) 0 0 false [] = Zah s := by simp [Zah, h]
 have HR := Hd hR
 clear hR
 go_enter Tryz.func14, Tryz.ntmps14
 go_wp2_with fail
 refine (Zly s _ (by omega) _ (uh HR)).mono ?_
 rintro e w' ⟨v, rfl, ho, hb⟩
 have HO := Hd ho
 have HB := Hd hb
 clear ho hb
 go_wp2_with fail
 go_ret3
 exact ⟨_, rfl, uh HO, uh HB⟩
end Go.Proofs.YtfccpddehpgfoaaGreatDoor
