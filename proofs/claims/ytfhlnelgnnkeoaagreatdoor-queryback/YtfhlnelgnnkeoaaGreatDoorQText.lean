/-
  numberText and textOf of package query. By the verifier.
-/
import Derived.Test.YtfhlnelgnnkeoaaGreatDoorQItoa
import Derived.Test.YtfhlnelgnnkeoaaGreatDoorQP6
import Derived.Deep.RegionWith
import Derived.BigRegion
namespace Go.Proofs.YtfhlnelgnnkeoaaGreatDoor
open Go.RowKit
set_option linter.unusedVariables false

/-- The text of a query's number. -/
def Qk.numT (k n : Int) : ByteArray := if n = -1 ∧ Qk.least k = -1 then ⟨#[97, 110, 121]⟩ else Qd.num n
/-- A query's word, with its number. -/
def Qk.headT (k n : Int) : ByteArray := if 0 < Qk.most k then Qk.word k ++ (⟨#[32]⟩ ++ Qk.numT k n) else Qk.word k
/-- A query's text. -/
def Qk.text : (n : Nat) → Qk.AT n → ByteArray
  | 0, _ => ⟨#[]⟩
  | n + 1, x => match x.2.map (Qk.text n) with
    | [] => Qk.headT x.1.1 x.1.2
    | [a] => (Qk.headT x.1.1 x.1.2 ++ ⟨#[32]⟩) ++ a
    | a :: b :: _ => (((((⟨#[40]⟩ ++ a) ++ ⟨#[32]⟩) ++ Qk.headT x.1.1 x.1.2) ++ ⟨#[32]⟩) ++ b) ++ ⟨#[41]⟩

theorem Qk.numT_size (k n : Int) (h : -9999999 ≤ n) (h1 : n ≤ 9999999) : (Qk.numT k n).size ≤ 20 := by
  unfold Qk.numT
  split
  · decide
  · exact Qd.num_size n (by omega) (by omega)
theorem Qk.word_size (k : Int) : (Qk.word k).size ≤ 5 := by
  unfold Qk.word
  split <;> decide
theorem Qk.headT_size (k n : Int) (h : -9999999 ≤ n) (h1 : n ≤ 9999999) : (Qk.headT k n).size ≤ 26 := by
  have a := Qk.word_size k
  have b := Qk.numT_size k n h h1
  have e : (⟨#[32]⟩ : ByteArray).size = 1 := rfl
  unfold Qk.headT
  split
  · rw [ByteArray.size_append, ByteArray.size_append]; omega
  · omega

set_option maxHeartbeats 400000 in
theorem mayBeAny_any (t : ByteArray) (a b m : Int) (w : World) :
    Calls Tryz.prog 52 #[.agg #[.string t, .int .i64 a, .int .i64 b, .int .i64 m]] w fun r w' => r = .returned (.bool (b == -1)) ∧ Below w.heap.size w w' := by
  go_enter Tryz.func52, Tryz.ntmps52
  go_wp2_with fail
  go_ret
  exact ⟨rfl, (Below.refl _ _).alloc (Nat.le_refl _) _⟩

set_option maxRecDepth 100000 in
set_option maxHeartbeats 800000 in
theorem numberText_any (k n : Int) (w : World) (h0 : -9999999 ≤ n) (h1 : n ≤ 9999999) (htab : Qd.tab w) :
    Calls Tryz.prog 40 #[.int .i64 n, .agg #[.string (Qk.word k), .int .i64 (Qk.argsI k), .int .i64 (Qk.least k), .int .i64 (Qk.most k)]] w fun r w' => r = .returned (.string (Qk.numT k n)) ∧ Below w.heap.size w w' := by
  have HI := hide (fun (W : World) (hb : Below w.heap.size w W) => show Calls Tryz.prog 53 #[.int .i64 n] W fun r w' => r = .returned (.string (Qd.num n)) ∧ Below W.heap.size W w' from Itoa_any n (by omega) (by omega) W (Qd.tab_later htab hb))
  have HT := hide (show Qk.numT k n = if n = -1 ∧ Qk.least k = -1 then ⟨#[97, 110, 121]⟩ else Qd.num n from rfl)
  clear htab
  generalize Qk.numT k n = T at *
  by_cases hn : n = -1
  · subst hn
    cases hm : (Qk.least k == -1)
    · have HZ := hide (show T = Qd.num (-1) by rw [unhide HT, if_neg (by intro h; rw [h.2] at hm; cases hm)])
      go_enter Tryz.func40, Tryz.ntmps40
      go_wp2_with fail
      refine (mayBeAny_any _ _ _ _ _).mono ?_
      rintro r w1 ⟨rfl, hb1⟩
      rw [hm]
      have HB1 := hide (below_two hb1)
      clear hb1
      go_wp2_with fail
      refine ((unhide HI) _ (unhide HB1)).mono ?_
      rintro r w2 ⟨rfl, hb2⟩
      have HB2 := hide ((unhide HB1).trans (hb2.mono (unhide HB1).size))
      clear hb2
      go_wp2_with fail
      go_ret
      exact ⟨by rw [unhide HZ]; rfl, unhide HB2⟩
    · have HZ := hide (show T = ⟨#[97, 110, 121]⟩ by rw [unhide HT, if_pos ⟨rfl, by simpa using hm⟩])
      go_enter Tryz.func40, Tryz.ntmps40
      go_wp2_with fail
      refine (mayBeAny_any _ _ _ _ _).mono ?_
      rintro r w1 ⟨rfl, hb1⟩
      rw [hm]
      have HB1 := hide (below_two hb1)
      clear hb1
      go_wp2_with fail
      go_ret
      exact ⟨by rw [unhide HZ]; rfl, unhide HB1⟩
  · have HZ := hide (show T = Qd.num n by rw [unhide HT, if_neg (fun h => hn h.1)])
    have hn2 : (n == -1) = false := by simp [hn]
    go_enter Tryz.func40, Tryz.ntmps40
    go_wp2_with fail
    refine ((unhide HI) _ ((Below.refl w.heap.size w).alloc (Nat.le_refl _) _)).mono ?_
    rintro r w2 ⟨rfl, hb2⟩
    have HB2 := hide (below_two hb2)
    clear hb2
    go_wp2_with fail
    go_ret
    exact ⟨by rw [unhide HZ]; rfl, unhide HB2⟩
end Go.Proofs.YtfhlnelgnnkeoaaGreatDoor
