/-
  Spans lie apart and have just the times: lists alone. By the verifier.
-/
import Derived.Test.YtkonaaldbeecoaaWBase
namespace Go.Proofs.Ytkonaaldbeecoaa
open Go.RowKit
set_option linter.unusedVariables false

theorem Wn.R_apart (b : List Bool) (k : Nat) : (∀ p ∈ Wn.R b k, p.1 < p.2 ∧ p.2 ≤ k) ∧ ((k = 0 ∨ Qk.at_ b (k - 1) = false) → ∀ p ∈ Wn.R b k, p.2 < k) ∧ (Wn.R b k).Pairwise (fun p q => p.2 < q.1) := by
  refine Wn.R_ind (P := fun k l => (∀ p ∈ l, p.1 < p.2 ∧ p.2 ≤ k) ∧ ((k = 0 ∨ Qk.at_ b (k - 1) = false) → ∀ p ∈ l, p.2 < k) ∧ l.Pairwise (fun p q => p.2 < q.1)) b ?_ ?_ ?_ ?_ k
  · exact ⟨fun p h => absurd h List.not_mem_nil, fun _ p h => absurd h List.not_mem_nil, List.Pairwise.nil⟩
  · rintro k h ⟨h1, h2, h3⟩
    exact ⟨fun p hp => by have := h1 p hp; omega, fun _ p hp => by have := h1 p hp; omega, h3⟩
  · rintro k h h0 ⟨h1, h2, h3⟩
    refine ⟨fun p hp => ?_, fun hk => ?_, List.pairwise_append.2 ⟨h3, List.pairwise_singleton _ _, fun p hp q hq => ?_⟩⟩
    · rcases List.mem_append.1 hp with hp | hp
      · have := h1 p hp; omega
      · simp at hp; subst hp; simp
    · rcases hk with hk | hk
      · omega
      · rw [Nat.add_sub_cancel, h] at hk; cases hk
    · simp at hq
      subst hq
      exact h2 h0 p hp
  · rintro k l a h hk hR ⟨h1, h2, h3⟩
    obtain ⟨g1, g2, g3⟩ := List.pairwise_append.1 h3
    refine ⟨fun p hp => ?_, fun hk => ?_, List.pairwise_append.2 ⟨g1, List.pairwise_singleton _ _, fun p hp q hq => ?_⟩⟩
    · rcases List.mem_append.1 hp with hp | hp
      · have := h1 p (List.mem_append_left _ hp); omega
      · simp at hp; subst hp; simp; omega
    · rcases hk with hk | hk
      · omega
      · rw [Nat.add_sub_cancel, h] at hk; cases hk
    · simp at hq
      subst hq
      exact g3 p hp (a, k) (by simp)

/-- Where the span ahead of the k-th one ended; -1, if there is none. -/
def Wn.lastAt (l : List (Nat × Nat)) : Nat → Int
  | 0 => -1
  | k + 1 => ((l[k]?).map fun p => ((p.2 : Nat) : Int)).getD (-1)
theorem Wn.lastAt_succ {l : List (Nat × Nat)} {k : Nat} {p : Nat × Nat} (h : l[k]? = some p) : Wn.lastAt l (k + 1) = (p.2 : Nat) := by simp [Wn.lastAt, h]
theorem Wn.lastAt_lt {l : List (Nat × Nat)} (hp : l.Pairwise (fun p q => p.2 < q.1)) {k : Nat} {p : Nat × Nat} (h : l[k]? = some p) : Wn.lastAt l k < (p.1 : Nat) := by
  cases k with
  | zero => show (-1 : Int) < _; omega
  | succ k =>
    obtain ⟨hk, rfl⟩ := List.getElem?_eq_some_iff.1 h
    have hk2 : l[k]? = some l[k] := List.getElem?_eq_getElem (by omega)
    rw [Wn.lastAt_succ hk2]
    have := List.pairwise_iff_getElem.1 hp k (k + 1) (by omega) hk (by omega)
    omega
theorem Wn.cuts_take {l : List (Nat × Nat)} {k : Nat} {p : Nat × Nat} (h : l[k]? = some p) (f t : Int) : Wn.cuts f t (l.take (k + 1)) = Wn.cuts f t (l.take k) ++ Wn.cut f t p := by
  obtain ⟨hk, rfl⟩ := List.getElem?_eq_some_iff.1 h
  rw [List.take_succ_eq_append_getElem hk, Wn.cuts_snoc]
theorem Wn.cut_whole {n : Nat} {p : Nat × Nat} (h : p.2 ≤ n) : Wn.cut 0 (n : Nat) p = Wn.upTo (p.1 : Nat) (p.2 : Nat) := by
  unfold Wn.cut
  rw [show max ((p.1 : Nat) : Int) 0 = (p.1 : Nat) by omega, show min ((p.2 : Nat) : Int) (n : Nat) = (p.2 : Nat) by omega]
theorem Wn.cuts_few {n : Nat} : ∀ {l : List (Nat × Nat)}, (∀ p ∈ l, p.2 ≤ n) → ∀ f t, (Wn.cuts f t l).length ≤ n * l.length
  | [], _, f, t => by simp [Wn.cuts]
  | q :: r, h, f, t => by
    have ih := Wn.cuts_few (l := r) (fun p hp => h p (List.mem_cons_of_mem _ hp)) f t
    have h1 := Wn.cut_length f t q
    have h2 := h q List.mem_cons_self
    simp only [Wn.cuts, List.flatMap_cons, List.length_append, List.length_cons] at ih ⊢
    rw [Nat.mul_add]
    omega
end Go.Proofs.Ytkonaaldbeecoaa
