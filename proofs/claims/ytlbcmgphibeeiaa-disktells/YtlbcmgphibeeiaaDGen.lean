/-
  The calls of disks, with an error or without one: one contract each. By the verifier.
-/
import Derived.Test.YtlbcmgphibeeiaaDSector
import Derived.Test.YtlbcmgphibeeiaaDLem
namespace Go.Proofs.Ytlbcmgphibeeiaa
open Go.RowKit
set_option linter.unusedVariables false

/-- What a call of disks answers. -/
abbrev Dk.Ans (w : World) (L : List ByteArray) (M : List (Int × ByteArray)) (E : Nat) (e : Ending) (w' : World) : Prop :=
  ∃ a c b d, e = .returned (.tuple #[.agg #[.slice a L.length c, .slice b M.length d], .int .i64 (E : Nat)]) ∧ Dk.RK w' a L ∧ Dk.RW w' b M ∧ Below w.heap.size w w' ∧ (E ≠ 0 → a = none ∧ c = 0 ∧ b = none ∧ d = 0)

def Dk.newL (n : Int) : List ByteArray := if Dk.cnt n then List.replicate n.toNat (Dk.zeros 32) else []
def Dk.newE (n : Int) : Nat := if Dk.cnt n then 0 else 3

theorem New_gen (n : Int) (w : World) : Calls Try.prog 5 #[.int .i64 n] w (Dk.Ans w (Dk.newL n) [] (Dk.newE n)) := by
  unfold Dk.newL Dk.newE
  by_cases h : Dk.cnt n = true
  · rw [if_pos h, if_pos h]
    simp only [Dk.cnt, decide_eq_true_eq] at h
    obtain ⟨m, rfl⟩ := Int.eq_ofNat_of_zero_le (show 0 ≤ n by omega)
    refine (New_ok m w (by omega) (by omega)).mono ?_
    rintro e w1 ⟨g, rfl, hrk, hb⟩
    exact ⟨some ⟨g, 0, none⟩, m, none, 0, by simp, by simpa using hrk, Dk.RW.nil _ _, hb, fun h => absurd rfl h⟩
  · rw [if_neg h, if_neg h]
    refine (New_err n w (by simpa using h)).mono ?_
    rintro e w1 ⟨rfl, hb⟩
    exact ⟨none, 0, none, 0, rfl, Dk.RK.nil _ _, Dk.RW.nil _ _, hb, fun _ => ⟨rfl, rfl, rfl, rfl⟩⟩

def Dk.wrK (ks : List ByteArray) (ws : List (Int × ByteArray)) (n : Int) (s : ByteArray) : List ByteArray := if Dk.wrE ks ws n s = 0 then ks else []
def Dk.wrW (ks : List ByteArray) (ws : List (Int × ByteArray)) (n : Int) (s : ByteArray) : List (Int × ByteArray) := if Dk.wrE ks ws n s = 0 then ws ++ [(n, s)] else []

theorem Write_gen (ka : Option Addr) (ks : List ByteArray) (kc : Nat) (wa : Option Addr) (ws : List (Int × ByteArray)) (wc : Nat) (n : Int) (s : ByteArray) (w : World) (hk : Dk.RK w ka ks) (hw : Dk.RW w wa ws) (hsm : s.size ≤ maxLen) :
    Calls Try.prog 7 #[.agg #[.slice ka ks.length kc, .slice wa ws.length wc], .int .i64 n, .string s] w (Dk.Ans w (Dk.wrK ks ws n s) (Dk.wrW ks ws n s) (Dk.wrE ks ws n s)) := by
  unfold Dk.wrK Dk.wrW
  by_cases h : Dk.wrE ks ws n s = 0
  · rw [if_pos h, if_pos h, h]
    refine (Write_ok ka ks kc wa ws wc n s w hk hw h hsm).mono ?_
    rintro e w1 ⟨g, c1, g2, c2, rfl, h1, h2, hb⟩
    exact ⟨some ⟨g, 0, none⟩, c1, some ⟨g2, 0, none⟩, c2, by simp, h1, h2, hb, fun h => absurd rfl h⟩
  · rw [if_neg h, if_neg h]
    refine (Write_err ka ks kc wa ws wc n s w hk hw h hsm).mono ?_
    rintro e w1 ⟨rfl, hb⟩
    exact ⟨none, 0, none, 0, rfl, Dk.RK.nil _ _, Dk.RW.nil _ _, hb, fun _ => ⟨rfl, rfl, rfl, rfl⟩⟩

def Dk.flL (p : Nat → Bool) (ks : List ByteArray) (ws : List (Int × ByteArray)) : List ByteArray := if Dk.chk ks ws = 0 then Dk.keptTo p ks ws ws.length else []

theorem Flush_gen (ka : Option Addr) (ks : List ByteArray) (kc : Nat) (wa : Option Addr) (ws : List (Int × ByteArray)) (wc : Nat) (w : World) (hk : Dk.RK w ka ks) (hw : Dk.RW w wa ws) :
    Calls Try.prog 8 #[.agg #[.slice ka ks.length kc, .slice wa ws.length wc]] w (Dk.Ans w (Dk.flL (fun _ => true) ks ws) [] (Dk.chk ks ws)) := by
  unfold Dk.flL
  by_cases h : Dk.chk ks ws = 0
  · rw [if_pos h, h]
    refine (Flush_ok ka ks kc wa ws wc w hk hw h).mono ?_
    rintro e w1 ⟨g, c1, rfl, h1, hb⟩
    exact ⟨some ⟨g, 0, none⟩, c1, none, 0, by rw [Dk.keptTo_length]; rfl, h1, Dk.RW.nil _ _, hb, fun h => absurd rfl h⟩
  · rw [if_neg h]
    refine (Flush_err ka ks kc wa ws wc w hk hw h).mono ?_
    rintro e w1 ⟨rfl, hb⟩
    exact ⟨none, 0, none, 0, rfl, Dk.RK.nil _ _, Dk.RW.nil _ _, hb, fun _ => ⟨rfl, rfl, rfl, rfl⟩⟩

theorem Crash_gen (ka : Option Addr) (ks : List ByteArray) (kc : Nat) (wa : Option Addr) (ws : List (Int × ByteArray)) (wc : Nat) (l : List Bool) (ad : Option Addr) (cap : Nat) (w : World) (hk : Dk.RK w ka ks) (hw : Dk.RW w wa ws) (hl : Dk.RB w ad l) :
    Calls Try.prog 9 #[.agg #[.slice ka ks.length kc, .slice wa ws.length wc], .slice ad l.length cap] w (Dk.Ans w (Dk.flL (fun i => (l[i]?).getD false) ks ws) [] (Dk.chk ks ws)) := by
  unfold Dk.flL
  by_cases h : Dk.chk ks ws = 0
  · rw [if_pos h, h]
    refine (Crash_ok ka ks kc wa ws wc l ad cap w hk hw hl h).mono ?_
    rintro e w1 ⟨g, c1, rfl, h1, hb⟩
    exact ⟨some ⟨g, 0, none⟩, c1, none, 0, by rw [Dk.keptTo_length]; rfl, h1, Dk.RW.nil _ _, hb, fun h => absurd rfl h⟩
  · rw [if_neg h]
    refine (Crash_err ka ks kc wa ws wc l ad cap w hk hw h).mono ?_
    rintro e w1 ⟨rfl, hb⟩
    exact ⟨none, 0, none, 0, rfl, Dk.RK.nil _ _, Dk.RW.nil _ _, hb, fun _ => ⟨rfl, rfl, rfl, rfl⟩⟩

theorem diskIs_gen (n : Nat) (ka kb : Option Addr) (ks ks' : List ByteArray) (kc kd : Nat) (wa wb : Option Addr) (ws ws' : List (Int × ByteArray)) (wc wd : Nat) (w : World) (hk : Dk.RK w ka ks) (hk2 : Dk.RK w kb ks') (hw : Dk.RW w wa ws) (hw2 : Dk.RW w wb ws')
    (h : (n = 0 ∧ ks' = ks ∧ ws' = ws ∧ ks.length ≤ 600 ∧ ws.length ≤ 600) ∨ (n ≠ 0 ∧ ks = [] ∧ ws = [] ∧ ka = none ∧ kc = 0 ∧ wa = none ∧ wc = 0)) :
    Calls Try.prog 17 #[.agg #[.slice ka ks.length kc, .slice wa ws.length wc], .int .i64 n, .int .i64 n, .agg #[.slice kb ks'.length kd, .slice wb ws'.length wd]] w fun e w' => e = .returned (.bool true) ∧ Below w.heap.size w w' := by
  rcases h with ⟨rfl, rfl, rfl, h1, h2⟩ | ⟨h0, rfl, rfl, rfl, rfl, rfl, rfl⟩
  · exact diskIs_ok ka kb _ kc kd wa wb _ wc wd w hk hk2 hw hw2 h1 h2
  · exact diskIs_err n kb _ kd wb _ wd w h0

theorem WriteOf_gen (ka : Option Addr) (ks : List ByteArray) (kc : Nat) (wa : Option Addr) (ws : List (Int × ByteArray)) (wc : Nat) (n : Int) (s : ByteArray) (w : World) (hw : Dk.RW w wa ws) (h4 : ws.length ≤ 600) (hws : ∀ y ∈ ws, y.2.size ≤ maxLen) (hsm : s.size ≤ maxLen) :
    Calls Try.prog 13 #[.agg #[.slice ka ks.length kc, .slice wa ws.length wc], .int .i64 n, .string s] w fun e w' => ∃ g2 c2, e = .returned (.agg #[.slice ka ks.length kc, .slice (some ⟨g2, 0, none⟩) (ws ++ [(n, s)]).length c2]) ∧ Dk.RW w' (some ⟨g2, 0, none⟩) (ws ++ [(n, s)]) ∧ Below w.heap.size w w' := by
  rw [List.length_append]
  cases ws with
  | nil =>
    cases wa with
    | none => exact WriteOf_none ka ks kc wc n s w hsm
    | some a => exact WriteOf_some ka ks kc a wc n s w hsm
  | cons x r =>
    obtain ⟨b, o, rfl, _⟩ := hw.at_ 0 x rfl
    exact WriteOf_cons ka ks kc b o (x :: r) wc n s w hw (by simp) h4 hws hsm
end Go.Proofs.Ytlbcmgphibeeiaa
