/-
  Contracts of nameAt and numberAt of package token. By the verifier.
-/
import Derived.Test.YtfhlnelgnnkeoaaGreatDoorGap
namespace Go.Proofs.YtfhlnelgnnkeoaaGreatDoor
open Go.RowKit
set_option linter.unusedVariables false

/-- The panic of a place. -/
def Tk.gaveUp (at_ : Nat) (why : Int) : List PanicEntry := [{ v := .iface 88 (.agg #[.int .i64 (at_ : Int), .int .i64 why]), recovered := false }]

/-- A token, as a value. -/
def Tk.tokV (k : Int) (at_ n : Nat) (s : ByteArray) : Value := .agg #[.int .i64 k, .int .i64 (at_ : Int), .string (s.extract at_ (at_ + n))]

set_option maxHeartbeats 400000 in
theorem nameAt_ok (s : ByteArray) (i n : Nat) (w : World) (hs : s.size ≤ maxLen) (hi : i ≤ s.size) (hn : Tk.run Tk.isLD ((Tk.B s).drop i) = n) (h12 : n ≤ 12) :
    Calls Tryz.prog 80 #[.string s, .int .i64 i] w fun e w' => e = .returned (Tk.tokV 1 i n s) ∧ Below w.heap.size w w' := by
  have hb := Tk.run_bound Tk.isLD s i hi
  rw [hn] at hb
  have hs' := hs
  unfold maxLen at hs'
  have HS := hide hs
  have HN := hide hn
  clear hs hn
  go_enter Tryz.func80, Tryz.ntmps80
  go_wp2_with fail
  refine (behind_name s i _ (unhide HS) hi).mono ?_
  rintro e w' ⟨rfl, rfl⟩
  rw [unhide HN]
  go_wp2_with fail
  exact bodyPost_ret (v := Tk.tokV 1 i n s) (by simp [results, Tryz.results80, go_sem, Tk.tokV]) rfl ⟨rfl, (Below.refl _ _).alloc (Nat.le_refl _) _⟩

set_option maxHeartbeats 400000 in
theorem nameAt_many (s : ByteArray) (i n : Nat) (w : World) (hs : s.size ≤ maxLen) (hi : i ≤ s.size) (hn : Tk.run Tk.isLD ((Tk.B s).drop i) = n) (h12 : 12 < n) :
    Calls Tryz.prog 80 #[.string s, .int .i64 i] w fun e w' => e = .panicked (Tk.gaveUp i 2) ∧ Below w.heap.size w w' := by
  have hb := Tk.run_bound Tk.isLD s i hi
  rw [hn] at hb
  have hs' := hs
  unfold maxLen at hs'
  have HS := hide hs
  have HN := hide hn
  clear hs hn
  go_enter Tryz.func80, Tryz.ntmps80
  go_wp2_with fail
  refine (behind_name s i _ (unhide HS) hi).mono ?_
  rintro e w' ⟨rfl, rfl⟩
  rw [unhide HN]
  go_wp2_with fail
  exact ⟨rfl, rfl, (Below.refl _ _).alloc (Nat.le_refl _) _⟩

set_option maxHeartbeats 400000 in
theorem numberAt_ok (s : ByteArray) (i n : Nat) (w : World) (hs : s.size ≤ maxLen) (hi : i < s.size) (hn : Tk.run Tk.isD ((Tk.B s).drop i) = n) (h7 : n ≤ 7)
    (hz : ((s[i].toNat : Int) == 48) = false ∨ n ≤ 1) :
    Calls Tryz.prog 82 #[.string s, .int .i64 i] w fun e w' => e = .returned (Tk.tokV 2 i n s) ∧ Below w.heap.size w w' := by
  have hb := Tk.run_bound Tk.isD s i (by omega)
  rw [hn] at hb
  have hs' := hs
  unfold maxLen at hs'
  have HS := hide hs
  have HN := hide hn
  clear hs hn
  cases h48 : ((s[i].toNat : Int) == 48)
  · clear hz
    go_enter Tryz.func82, Tryz.ntmps82
    go_wp2_with fail
    refine (behind_digit s i _ (unhide HS) (by omega)).mono ?_
    rintro e w' ⟨rfl, rfl⟩
    rw [unhide HN]
    go_wp2_with fail
    exact bodyPost_ret (v := Tk.tokV 2 i n s) (by simp [results, Tryz.results82, go_sem, Tk.tokV]) rfl ⟨rfl, (Below.refl _ _).alloc (Nat.le_refl _) _⟩
  · have hn1 : n ≤ 1 := by rcases hz with hz | hz; (rw [h48] at hz; cases hz); exact hz
    clear hz
    go_enter Tryz.func82, Tryz.ntmps82
    go_wp2_with fail
    refine (behind_digit s i _ (unhide HS) (by omega)).mono ?_
    rintro e w' ⟨rfl, rfl⟩
    rw [unhide HN]
    go_wp2_with fail
    exact bodyPost_ret (v := Tk.tokV 2 i n s) (by simp [results, Tryz.results82, go_sem, Tk.tokV]) rfl ⟨rfl, (Below.refl _ _).alloc (Nat.le_refl _) _⟩

set_option maxHeartbeats 400000 in
theorem numberAt_many (s : ByteArray) (i n : Nat) (w : World) (hs : s.size ≤ maxLen) (hi : i < s.size) (hn : Tk.run Tk.isD ((Tk.B s).drop i) = n) (h7 : 7 < n) :
    Calls Tryz.prog 82 #[.string s, .int .i64 i] w fun e w' => e = .panicked (Tk.gaveUp i 2) ∧ Below w.heap.size w w' := by
  have hb := Tk.run_bound Tk.isD s i (by omega)
  rw [hn] at hb
  have hs' := hs
  unfold maxLen at hs'
  have HS := hide hs
  have HN := hide hn
  clear hs hn
  go_enter Tryz.func82, Tryz.ntmps82
  go_wp2_with fail
  refine (behind_digit s i _ (unhide HS) (by omega)).mono ?_
  rintro e w' ⟨rfl, rfl⟩
  rw [unhide HN]
  go_wp2_with fail
  exact ⟨rfl, rfl, (Below.refl _ _).alloc (Nat.le_refl _) _⟩

set_option maxHeartbeats 400000 in
theorem numberAt_nought (s : ByteArray) (i n : Nat) (w : World) (hs : s.size ≤ maxLen) (hi : i < s.size) (hn : Tk.run Tk.isD ((Tk.B s).drop i) = n) (h7 : n ≤ 7)
    (h48 : ((s[i].toNat : Int) == 48) = true) (h1 : 1 < n) :
    Calls Tryz.prog 82 #[.string s, .int .i64 i] w fun e w' => e = .panicked (Tk.gaveUp i 1) ∧ Below w.heap.size w w' := by
  have hb := Tk.run_bound Tk.isD s i (by omega)
  rw [hn] at hb
  have hs' := hs
  unfold maxLen at hs'
  have HS := hide hs
  have HN := hide hn
  clear hs hn
  go_enter Tryz.func82, Tryz.ntmps82
  go_wp2_with fail
  refine (behind_digit s i _ (unhide HS) (by omega)).mono ?_
  rintro e w' ⟨rfl, rfl⟩
  rw [unhide HN]
  go_wp2_with fail
  exact ⟨rfl, rfl, (Below.refl _ _).alloc (Nat.le_refl _) _⟩
end Go.Proofs.YtfhlnelgnnkeoaaGreatDoor
