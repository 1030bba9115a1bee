/-
  Disks behind a write: what they are, as lists. By the verifier.
-/
import Derived.Test.YtlbcmgphibeeiaaDRead
namespace Go.Proofs.Ytlbcmgphibeeiaa
open Go.RowKit
set_option linter.unusedVariables false

theorem Dk.chkWs_append (n : Nat) (l : List (Int × ByteArray)) (x : Int × ByteArray) (h : Dk.chkWs n l = 0) (hx : Dk.chkW n x = 0) : Dk.chkWs n (l ++ [x]) = 0 := by
  induction l with
  | nil => show (if Dk.chkW n x = 0 then _ else _) = _; rw [if_pos hx]; rfl
  | cons y r ih =>
    show (if Dk.chkW n y = 0 then Dk.chkWs n (r ++ [x]) else Dk.chkW n y) = 0
    have h' : (if Dk.chkW n y = 0 then Dk.chkWs n r else Dk.chkW n y) = 0 := h
    split
    · rename_i h0; rw [if_pos h0] at h'; exact ih h'
    · rename_i h0; rw [if_neg h0] at h'; exact absurd h' h0

theorem Dk.chk_mk {ks : List ByteArray} {ws : List (Int × ByteArray)} (h1 : 1 ≤ ks.length) (h2 : ks.length ≤ 600) (h3 : ks.all Dk.is32 = true) (h4 : ws.length ≤ 600) (h5 : Dk.chkWs ks.length ws = 0) : Dk.chk ks ws = 0 := by
  unfold Dk.chk
  rw [if_pos ⟨h1, h2⟩, if_pos h3, if_neg (by omega), h5]

section
variable {ks : List ByteArray} {ws : List (Int × ByteArray)} {n : Int} {s : ByteArray}

theorem Dk.chk_write (hc1 : Dk.chk ks ws = 0) (hc2 : Dk.chkW ks.length (n, s) = 0) (hc3 : ws.length ≠ 600) : Dk.chk ks (ws ++ [(n, s)]) = 0 := by
  obtain ⟨h1, h2, h3, h4, h5⟩ := Dk.chk_ok hc1
  exact Dk.chk_mk h1 h2 h3 (by simp; omega) (Dk.chkWs_append _ _ _ h5 hc2)

theorem Dk.chkW_ok (hc2 : Dk.chkW ks.length (n, s) = 0) : Dk.inn ks.length n = true ∧ s.size = 32 ∧ n.toNat < ks.length := by
  unfold Dk.chkW at hc2
  split at hc2
  · rename_i h1
    split at hc2
    · rename_i h2
      refine ⟨h1, by simpa [Dk.is32] using h2, ?_⟩
      simp only [Dk.inn, decide_eq_true_eq] at h1
      omega
    · cases hc2
  · cases hc2

theorem Dk.kept_last (hc2 : Dk.chkW ks.length (n, s) = 0) : (Dk.keptTo (fun _ => true) ks (ws ++ [(n, s)]) (ws ++ [(n, s)]).length)[n.toNat]? = some s := by
  have e : (ws ++ [(n, s)]).length = ws.length + 1 := by simp
  rw [e, Dk.keptTo_step _ _ _ _ (n, s) (by simp), if_pos rfl]
  show (List.set _ n.toNat s)[n.toNat]? = _
  rw [List.getElem?_set_self (by rw [Dk.keptTo_length]; exact (Dk.chkW_ok hc2).2.2)]

theorem Dk.rd_write (hc1 : Dk.chk ks ws = 0) (hc2 : Dk.chkW ks.length (n, s) = 0) (hc3 : ws.length ≠ 600) : Dk.rd ks (ws ++ [(n, s)]) n = (s, 0) := by
  unfold Dk.rd
  rw [if_pos (Dk.chk_write hc1 hc2 hc3), if_pos (Dk.chkW_ok hc2).1, Dk.kept_last hc2]
  rfl

theorem Dk.chk_kept (p : Nat → Bool) (k : Nat) (hc1 : Dk.chk ks ws = 0) : Dk.chk (Dk.keptTo p ks ws k) [] = 0 := by
  obtain ⟨h1, h2, h3, h4, h5⟩ := Dk.chk_ok hc1
  refine Dk.chk_mk (by rw [Dk.keptTo_length]; exact h1) (by rw [Dk.keptTo_length]; exact h2) ?_ (by simp) rfl
  rw [List.all_eq_true]
  intro t ht
  have := Dk.keptTo_32 p hc1 k t ht
  simp [Dk.is32, this]

theorem Dk.rd_kept (hc1 : Dk.chk ks ws = 0) (hc2 : Dk.chkW ks.length (n, s) = 0) (hc3 : ws.length ≠ 600) : Dk.rd (Dk.keptTo (fun _ => true) ks (ws ++ [(n, s)]) (ws ++ [(n, s)]).length) [] n = (s, 0) := by
  unfold Dk.rd
  rw [if_pos (Dk.chk_kept _ _ (Dk.chk_write hc1 hc2 hc3)), if_pos (by rw [Dk.keptTo_length]; exact (Dk.chkW_ok hc2).1)]
  show (((Dk.keptTo (fun _ => true) ks (ws ++ [(n, s)]) (ws ++ [(n, s)]).length)[n.toNat]?).getD ⟨#[]⟩, 0) = _
  rw [Dk.kept_last hc2]
  rfl
end
end Go.Proofs.Ytlbcmgphibeeiaa
