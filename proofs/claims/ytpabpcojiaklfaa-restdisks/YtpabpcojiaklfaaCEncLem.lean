/-
  Columns: what is told so far, as lists. By the verifier.
-/
import Derived.Test.YtpabpcojiaklfaaCRef
namespace Go.Proofs.Ytpabpcojiaklfaa
open Go.RowKit
set_option linter.unusedVariables false

/-- The last number of a column. -/
def Cl.lastC (c : Nat) (p : Int) : List Ev → Int
  | [] => p
  | e :: r => Cl.lastC c (e.col c) r
theorem Cl.lastC_snoc (c : Nat) (e : Ev) : ∀ (a : List Ev) (p : Int), Cl.lastC c p (a ++ [e]) = e.col c
  | [], p => rfl
  | x :: r, p => Cl.lastC_snoc c e r (x.col c)
theorem Cl.colB_snoc (c : Nat) (e : Ev) : ∀ (a : List Ev) (p : Int), Cl.colB c p (a ++ [e]) = Cl.colB c p a ++ Cl.natB (Cl.zig (e.col c - Cl.lastC c p a))
  | [], p => by show Cl.natB _ ++ [] = [] ++ Cl.natB _; simp [Cl.lastC]
  | x :: r, p => by
    show Cl.natB _ ++ Cl.colB c (x.col c) (r ++ [e]) = (Cl.natB _ ++ Cl.colB c (x.col c) r) ++ _
    rw [Cl.colB_snoc c e r (x.col c), List.append_assoc]
    rfl
theorem Cl.lastC_ok (c : Nat) : ∀ (a : List Ev) (p : Int), (∀ e ∈ a, e.ok = true) → (-2147483648 ≤ p ∧ p ≤ 2147483647) → (-2147483648 ≤ Cl.lastC c p a ∧ Cl.lastC c p a ≤ 2147483647)
  | [], p, _, h => h
  | x :: r, p, ha, _ => Cl.lastC_ok c r (x.col c) (fun e he => ha e (List.mem_cons_of_mem _ he)) (Ev.ok_col (ha x List.mem_cons_self) c)

theorem Cl.natB_len : ∀ (j n : Nat), n < 128 ^ (j + 1) → (Cl.natB n).length ≤ j + 1
  | 0, n, h => by rw [Cl.natB_lt (by simpa using h)]; simp
  | j + 1, n, h => by
    by_cases h1 : n < 128
    · rw [Cl.natB_lt h1]; simp
    · rw [Cl.natB_ge h1]
      have : n / 128 < 128 ^ (j + 1) := by
        rw [Nat.div_lt_iff_lt_mul (by omega)]
        rwa [Nat.pow_succ] at h
      have := Cl.natB_len j (n / 128) this
      simp
      omega
theorem Cl.zig_lt {n : Int} (h1 : -4294967296 ≤ n) (h2 : n ≤ 4294967296) : Cl.zig n < 8796093022208 := by
  unfold Cl.zig
  split <;> omega
theorem Cl.natB_zig {n : Int} (h1 : -4294967296 ≤ n) (h2 : n ≤ 4294967296) : (Cl.natB (Cl.zig n)).length ≤ 6 :=
  Cl.natB_len 5 _ (by
    have : Cl.zig n < 4398046511104 := by unfold Cl.zig; split <;> omega
    have e : (128 : Nat) ^ (5 + 1) = 4398046511104 := by decide
    omega)
theorem Cl.colB_len (c : Nat) : ∀ (a : List Ev) (p : Int), (∀ e ∈ a, e.ok = true) → (-2147483648 ≤ p ∧ p ≤ 2147483647) → (Cl.colB c p a).length ≤ 6 * a.length
  | [], p, _, _ => by simp [Cl.colB]
  | x :: r, p, ha, hp => by
    have hx := Ev.ok_col (ha x List.mem_cons_self) c
    have h1 := Cl.colB_len c r (x.col c) (fun e he => ha e (List.mem_cons_of_mem _ he)) hx
    have h2 := Cl.natB_zig (n := x.col c - p) (by omega) (by omega)
    show (Cl.natB _ ++ Cl.colB c (x.col c) r).length ≤ _
    rw [List.length_append, List.length_cons]
    omega
theorem Cl.encTo_len (l : List Ev) (hl : l.length ≤ 4000) (ha : ∀ e ∈ l, e.ok = true) : ∀ k, k ≤ 6 → (Cl.encTo l k).length ≤ 6 + 24000 * k
  | 0, _ => by
    have := Cl.natB_len 5 l.length (by have e : (128 : Nat) ^ (5 + 1) = 4398046511104 := by decide
                                       omega)
    show (Cl.natB l.length).length ≤ _
    omega
  | k + 1, h => by
    have h1 := Cl.encTo_len l hl ha k (by omega)
    have h2 := Cl.colB_len k l 0 ha ⟨by omega, by omega⟩
    show (Cl.encTo l k ++ Cl.colB k 0 l).length ≤ _
    rw [List.length_append]
    omega

/-- What is told when of column c the first k events are told. -/
def Cl.encAt (l : List Ev) (c k : Nat) : List Nat := Cl.encTo l c ++ Cl.colB c 0 (l.take k)
theorem Cl.encAt_zero (l : List Ev) (c : Nat) : Cl.encAt l c 0 = Cl.encTo l c := by unfold Cl.encAt; rw [List.take_zero]; show _ ++ [] = _; simp
theorem Cl.encAt_all (l : List Ev) (c : Nat) : Cl.encAt l c l.length = Cl.encTo l (c + 1) := by unfold Cl.encAt; rw [List.take_length]; rfl
theorem Cl.encAt_step (l : List Ev) (c k : Nat) (e : Ev) (h : l[k]? = some e) : Cl.encAt l c (k + 1) = Cl.encAt l c k ++ Cl.natB (Cl.zig (e.col c - Cl.lastC c 0 (l.take k))) := by
  unfold Cl.encAt
  rw [List.take_add_one, h]
  show _ ++ Cl.colB c 0 (l.take k ++ [e]) = _
  rw [Cl.colB_snoc, List.append_assoc]
theorem Cl.last_step (l : List Ev) (c k : Nat) (e : Ev) (h : l[k]? = some e) : Cl.lastC c 0 (l.take (k + 1)) = e.col c := by
  rw [List.take_add_one, h]
  exact Cl.lastC_snoc c e _ _
theorem Cl.encAt_len (l : List Ev) (c k : Nat) (hl : l.length ≤ 4000) (ha : ∀ e ∈ l, e.ok = true) (hc : c < 6) : (Cl.encAt l c k).length ≤ 150000 := by
  unfold Cl.encAt
  have h1 := Cl.encTo_len l hl ha c (by omega)
  have h2 := Cl.colB_len c (l.take k) 0 (fun e he => ha e (List.mem_of_mem_take he)) ⟨by omega, by omega⟩
  have h3 : (l.take k).length ≤ 4000 := by rw [List.length_take]; omega
  rw [List.length_append]
  omega
theorem Cl.last_in (l : List Ev) (c k : Nat) (ha : ∀ e ∈ l, e.ok = true) : -2147483648 ≤ Cl.lastC c 0 (l.take k) ∧ Cl.lastC c 0 (l.take k) ≤ 2147483647 :=
  Cl.lastC_ok c _ _ (fun e he => ha e (List.mem_of_mem_take he)) ⟨by omega, by omega⟩
end Go.Proofs.Ytpabpcojiaklfaa
