/-
  AskText of the document. By the verifier.
-/
import Derived.Test.YtgibipidokkjbaaGreatDoorQAsk
namespace Go.Proofs.YtgibipidokkjbaaGreatDoor
open Go.RowKit
set_option linter.unusedVariables false

theorem Qk.len_two {α : Type} {l : List α} (h : l.length = 2) : ∃ y z, l = [y, z] := by
  match l, h with
  | [y, z], _ => exact ⟨y, z, rfl⟩
theorem AskText_any : ∀ (n : Nat) (e : Qk.E) (x : Qk.AT n) (W : World), Qk.RA W n e x → Qk.wrong n x = 0 → Qk.parts n x ≤ 15 → Calls Tryz.prog 10 #[e.val] W fun r w' => r = .returned (.string (Qk.text n x)) ∧ Below W.heap.size W w' := by
  intro n
  induction n with
  | zero => intro e x W h; exact h.elim
  | succ n ih =>
    rintro ⟨k', m', ⟨ad, len, cap⟩⟩ ⟨⟨k, m⟩, l⟩ W ⟨⟨hk1, hm1⟩, hs⟩ hw hp
    obtain rfl : k' = k := hk1
    obtain rfl : m' = m := hm1
    obtain rfl : len = l.length := hs.len
    obtain ⟨hk, hl, _, _⟩ := Qk.isK_parts hw
    rcases Qk.kinds hk with rfl | rfl | rfl | rfl | rfl | rfl | rfl | rfl | rfl | rfl | rfl | rfl | rfl | rfl
    · obtain rfl : l = [] := by
        have hl2 : l.length = 0 := hl
        exact List.length_eq_zero_iff.1 hl2
      cases hmm : (m' == -1)
      · exact ask_1dig n m' ad cap W hs hw hp hmm ih
      · exact ask_1any n m' ad cap W hs hw hp (by simpa using hmm) ih
    · obtain rfl : l = [] := by
        have hl2 : l.length = 0 := hl
        exact List.length_eq_zero_iff.1 hl2
      cases hmm : (m' == -1)
      · exact ask_2dig n m' ad cap W hs hw hp hmm ih
      · exact ask_2any n m' ad cap W hs hw hp (by simpa using hmm) ih
    · obtain rfl : l = [] := by
        have hl2 : l.length = 0 := hl
        exact List.length_eq_zero_iff.1 hl2
      cases hmm : (m' == -1)
      · exact ask_3dig n m' ad cap W hs hw hp hmm ih
      · exact ask_3any n m' ad cap W hs hw hp (by simpa using hmm) ih
    · obtain rfl : l = [] := by
        have hl2 : l.length = 0 := hl
        exact List.length_eq_zero_iff.1 hl2
      exact ask_4 n m' ad cap W hs hw hp ih
    · obtain rfl : l = [] := by
        have hl2 : l.length = 0 := hl
        exact List.length_eq_zero_iff.1 hl2
      exact ask_5 n m' ad cap W hs hw hp ih
    · obtain rfl : l = [] := by
        have hl2 : l.length = 0 := hl
        exact List.length_eq_zero_iff.1 hl2
      exact ask_6 n m' ad cap W hs hw hp ih
    · obtain ⟨y, rfl⟩ : ∃ y, l = [y] := by
        have hl2 : l.length = 1 := hl
        exact List.length_eq_one_iff.1 hl2
      exact ask_7 n m' ad cap y W hs hw hp ih
    · obtain ⟨y, z, rfl⟩ : ∃ y z, l = [y, z] := by
        have hl2 : l.length = 2 := hl
        exact Qk.len_two hl2
      exact ask_8 n m' ad cap y z W hs hw hp ih
    · obtain ⟨y, z, rfl⟩ : ∃ y z, l = [y, z] := by
        have hl2 : l.length = 2 := hl
        exact Qk.len_two hl2
      exact ask_9 n m' ad cap y z W hs hw hp ih
    · obtain ⟨y, rfl⟩ : ∃ y, l = [y] := by
        have hl2 : l.length = 1 := hl
        exact List.length_eq_one_iff.1 hl2
      exact ask_10 n m' ad cap y W hs hw hp ih
    · obtain ⟨y, rfl⟩ : ∃ y, l = [y] := by
        have hl2 : l.length = 1 := hl
        exact List.length_eq_one_iff.1 hl2
      exact ask_11 n m' ad cap y W hs hw hp ih
    · obtain ⟨y, rfl⟩ : ∃ y, l = [y] := by
        have hl2 : l.length = 1 := hl
        exact List.length_eq_one_iff.1 hl2
      exact ask_12 n m' ad cap y W hs hw hp ih
    · obtain ⟨y, z, rfl⟩ : ∃ y z, l = [y, z] := by
        have hl2 : l.length = 2 := hl
        exact Qk.len_two hl2
      exact ask_13 n m' ad cap y z W hs hw hp ih
    · obtain ⟨y, rfl⟩ : ∃ y, l = [y] := by
        have hl2 : l.length = 1 := hl
        exact List.length_eq_one_iff.1 hl2
      exact ask_14 n m' ad cap y W hs hw hp ih
end Go.Proofs.YtgibipidokkjbaaGreatDoor
