/-
  tokenBegun. By the verifier.
-/
import Derived.Test.YtnfigfedijhiiaaJoin
namespace Go.Proofs.Ytnfigfedijhiiaa
open Go.RowKit
set_option linter.unusedVariables false

/-- Tokens of a text, as they are read. -/
def Tk.toks (s : ByteArray) (l : List (Nat × Nat × Nat)) : List (Int × Int × ByteArray) := l.map fun t => ((t.1 : Int), (t.2.1 : Int), s.extract t.2.1 (t.2.1 + t.2.2))

theorem Tk.toks_length (s : ByteArray) (l : List (Nat × Nat × Nat)) : (Tk.toks s l).length = l.length := by simp [Tk.toks]

theorem Tk.cells_at (s : ByteArray) (l : List (Nat × Nat × Nat)) : ∀ (i : Nat) (t : Nat × Nat × Nat), l[i]? = some t →
    (Tk.cells s l)[i * 3]? = some (.int .i64 (t.1 : Int)) ∧ (Tk.cells s l)[i * 3 + 1]? = some (.int .i64 (t.2.1 : Int)) ∧ (Tk.cells s l)[i * 3 + 2]? = some (.string (s.extract t.2.1 (t.2.1 + t.2.2))) := by
  induction l with
  | nil => intro i t h; simp at h
  | cons x r ih =>
    intro i t h
    cases i with
    | zero => simp at h; subst h; simp [Tk.cells]
    | succ i =>
      rw [List.getElem?_cons_succ] at h
      obtain ⟨h1, h2, h3⟩ := ih i t h
      have e : Tk.cells s (x :: r) = .int .i64 (x.1 : Int) :: .int .i64 (x.2.1 : Int) :: .string (s.extract x.2.1 (x.2.1 + x.2.2)) :: Tk.cells s r := rfl
      have e0 : (i + 1) * 3 = i * 3 + 1 + 1 + 1 := by omega
      rw [e, e0]
      exact ⟨h1, h2, h3⟩

theorem Tk.add_at (g j : Nat) : (⟨g, 0, none⟩ : Addr).add j = ⟨g, j, none⟩ := by unfold Addr.add; split <;> simp_all

theorem Tk.reads_own {w : World} {base : Nat} {ad : Option Addr} {n cap : Nat} {s : ByteArray} {l : List (Nat × Nat × Nat)} (hs : s.size ≤ maxLen) (h : w.ownsRow base 34 3 (.slice ad n cap) l.length (Tk.cells s l)) :
    Tk.Reads w ad (Tk.toks s l) := by
  refine ⟨fun i t hi => ?_⟩
  unfold Tk.toks at hi
  rw [List.getElem?_map] at hi
  cases hx : l[i]? with
  | none => rw [hx] at hi; cases hi
  | some x =>
    rw [hx] at hi
    simp at hi
    subst hi
    have hn : 0 < l.length := by
      have := (List.getElem?_eq_some_iff.1 hx).1; omega
    obtain ⟨g, cap', hv, hg1, hg2⟩ := h.form hn
    have hc := h.cells (g := g) (by rw [hv]; rfl)
    obtain ⟨h1, h2, h3⟩ := Tk.cells_at s l i x hx
    cases hv
    refine ⟨g, 0, rfl, hg2, ?_, ?_, ?_, ?_⟩
    · have := hc _ _ h1; rw [Nat.zero_add]; rw [Tk.add_at] at this; exact this
    · have := hc _ _ h2; rw [Nat.zero_add]; rw [Tk.add_at] at this; exact this
    · have := hc _ _ h3; rw [Nat.zero_add]; rw [Tk.add_at] at this; exact this
    · show (s.extract _ _).size ≤ maxLen
      rw [ByteArray.size_extract]
      unfold maxLen at hs ⊢
      omega

def Tk.small : ByteArray := ⟨#[97, 98, 32, 61, 61, 32, 55, 59, 35, 120]⟩

theorem Tk.small_scan : Tk.scanR Tk.small = ([(1, 0, 2), (3, 3, 2), (2, 6, 1), (3, 7, 1)], 0, 0) := by decide +kernel

theorem Tk.small_join : Tk.joinR (Tk.toks Tk.small [(1, 0, 2), (3, 3, 2), (2, 6, 1), (3, 7, 1)]) = (⟨#[97, 98, 32, 61, 61, 32, 55, 32, 59]⟩, 0) := by decide +kernel

theorem Tk.small_two : Tk.small.extract 3 5 = ⟨#[61, 61]⟩ := by decide +kernel

set_option maxHeartbeats 800000 in
theorem tokenBegun_any (w : World) : Calls Try.prog 9 #[] w fun e w' => e = .returned (.bool true) ∧ Below w.heap.size w w' := by
  go_enter Try.func9, Try.ntmps9
  go_wp2_with fail
  refine (Scan_any Tk.small _ (by unfold maxLen; decide)).mono ?_
  rintro e w1 ⟨v, rfl, ho, hb⟩
  rw [Tk.small_scan] at ho ⊢
  obtain ⟨g, cap, rfl, hg1, hg2⟩ := ho.form (by decide)
  have hrd := Tk.reads_own (by unfold maxLen; decide) ho
  have c3 : w1.cell? ⟨g, 3, none⟩ = some (.int .i64 3) := ho.cells (g := g) rfl 3 _ rfl
  have c4 : w1.cell? ⟨g, 4, none⟩ = some (.int .i64 3) := ho.cells (g := g) rfl 4 _ rfl
  have c5 : w1.cell? ⟨g, 5, none⟩ = some (.string ⟨#[61, 61]⟩) := ho.cells (g := g) rfl 5 _ (by rw [← Tk.small_two]; rfl)
  have HRD := hide hrd
  have HB := hide hb
  have hz := hb.size
  clear ho hb hrd
  go_wp2_with fail
  refine (Join_any (Tk.toks Tk.small [(1, 0, 2), (3, 3, 2), (2, 6, 1), (3, 7, 1)]) (some ⟨g, 0, none⟩) cap _ (unhide HRD) (by decide)).mono ?_
  rintro e w2 ⟨rfl, hb2⟩
  rw [Tk.small_join]
  have d3 : w2.cell? ⟨g, 3, none⟩ = some (.int .i64 3) := (hb2.cell (p := ⟨g, 3, none⟩) hg2).trans c3
  have d4 : w2.cell? ⟨g, 4, none⟩ = some (.int .i64 3) := (hb2.cell (p := ⟨g, 4, none⟩) hg2).trans c4
  have d5 : w2.cell? ⟨g, 5, none⟩ = some (.string ⟨#[61, 61]⟩) := (hb2.cell (p := ⟨g, 5, none⟩) hg2).trans c5
  have HB2 := hide hb2
  clear hb2 c3 c4 c5
  go_wp2_with fail
  go_ret
  exact ⟨rfl, (unhide HB).trans ((unhide HB2).mono hz)⟩
end Go.Proofs.Ytnfigfedijhiiaa
