/-
  The contract of withBlanks of package token. By the verifier.
-/
import Derived.Test.YtnfigfedijhiiaaAlone
import Derived.Test.YtnfigfedijhiiaaShelfB
namespace Go.Proofs.Ytnfigfedijhiiaa
open Go.RowKit
set_option linter.unusedVariables false

/-- A slice of tokens, as it is read: kind, place, text of each. -/
structure Tk.Reads (w : World) (ad : Option Addr) (l : List (Int × Int × ByteArray)) : Prop where
  at_ : ∀ i t, l[i]? = some t → ∃ b o, ad = some ⟨b, o, none⟩ ∧ b < w.heap.size ∧ w.cell? ⟨b, o + i * 3, none⟩ = some (.int .i64 t.1) ∧ w.cell? ⟨b, o + i * 3 + 1, none⟩ = some (.int .i64 t.2.1) ∧
    w.cell? ⟨b, o + i * 3 + 2, none⟩ = some (.string t.2.2) ∧ t.2.2.size ≤ maxLen

theorem Tk.Reads.later {w w' : World} {ad : Option Addr} {l : List (Int × Int × ByteArray)} (h : Tk.Reads w ad l) {B : Nat} (hb : Below B w w') (hB : w.heap.size ≤ B) : Tk.Reads w' ad l :=
  ⟨fun i t hi => by
    obtain ⟨b, o, h1, h2, h3, h4, h5, h6⟩ := h.at_ i t hi
    have hc : ∀ j, w'.cell? ⟨b, j, none⟩ = w.cell? ⟨b, j, none⟩ := fun j => hb.cell (p := ⟨b, j, none⟩) (by show b < B; omega)
    exact ⟨b, o, h1, by have := hb.size; omega, by rw [hc]; exact h3, by rw [hc]; exact h4, by rw [hc]; exact h5, h6⟩⟩

/-- The bytes of the first i texts, a blank between. -/
def Tk.jnTo (l : List (Int × Int × ByteArray)) : Nat → List UInt8
  | 0 => []
  | i + 1 => Tk.jnTo l i ++ (if i = 0 then [] else [32]) ++ ((l[i]?.map fun t => t.2.2.data.toList).getD [])

theorem Tk.jnTo_mono (l : List (Int × Int × ByteArray)) (i : Nat) : (Tk.jnTo l i).length ≤ (Tk.jnTo l (i + 1)).length := by
  show _ ≤ (Tk.jnTo l i ++ _ ++ _).length
  simp only [List.length_append]; omega

theorem Tk.jnTo_le (l : List (Int × Int × ByteArray)) (i j : Nat) (h : i ≤ j) : (Tk.jnTo l i).length ≤ (Tk.jnTo l j).length := by
  induction j with
  | zero => have : i = 0 := by omega
            subst this; exact Nat.le_refl _
  | succ j ih =>
    by_cases e : i = j + 1
    · subst e; exact Nat.le_refl _
    · exact Nat.le_trans (ih (by omega)) (Tk.jnTo_mono l j)

theorem Tk.jnTo_step (l : List (Int × Int × ByteArray)) (k : Nat) (t : Int × Int × ByteArray) (h : l[k]? = some t) :
    Tk.jnTo l (k + 1) = Tk.jnTo l k ++ (if k = 0 then [] else [32]) ++ t.2.2.data.toList := by
  show Tk.jnTo l k ++ (if k = 0 then [] else [32]) ++ ((l[k]?.map fun t => t.2.2.data.toList).getD []) = _
  rw [h]; rfl

set_option maxHeartbeats 800000 in
theorem withBlanks_any (l : List (Int × Int × ByteArray)) (ad : Option Addr) (cap : Nat) (w : World) (hr : Tk.Reads w ad l) (hlen : (Tk.jnTo l l.length).length ≤ 6000) (hl : l.length ≤ 35184372088832) :
    Calls Try.prog 16 #[.slice ad l.length cap] w fun e w' => e = .returned (.string ⟨(Tk.jnTo l l.length).toArray⟩) ∧ Below w.heap.size w w' := by
  have HR := hide hr
  clear hr
  go_enter Try.func16, Try.ntmps16
  go_wp2_with fail
  go_loopw [8] (fun iv wr => ∃ k : Nat, k ≤ l.length ∧ iv = .int .i64 k ∧ Lib.IsBuilderF 49 5 w.heap.size w.heap.size (Lib.byteCells (Tk.jnTo l k)) wr ∧ Below w.heap.size w wr ∧ w.heap.size < wr.heap.size) (fun iv _ => l.length - (intOf iv).toNat)
  case atStart =>
    refine ⟨0, Nat.zero_le _, rfl, .inl (Lib.BuilderAtF.of ⟨Nat.le_refl _, .slice none 0 0, heap_alloc_new w _, World.ownsRow_nil _ _ _ _, by simp [Value.ownBlock]⟩), (Below.refl _ _).alloc (Nat.le_refl _) _, by simp⟩
  case round =>
    obtain ⟨k, hk, rfl, hib, hbe, hsz⟩ := hrel
    have HI := hide hib
    have HBE := hide hbe
    clear hib hbe
    by_cases hlt : k < l.length
    · obtain ⟨t, ht⟩ : ∃ t, l[k]? = some t := ⟨l[k], List.getElem?_eq_getElem hlt⟩
      obtain ⟨b, o, rfl, hb, c0, c1, c2, hts⟩ := ((unhide HR).later (unhide HBE) (Nat.le_refl _)).at_ k t ht
      have HT := hide ht
      clear ht
      have hk1 : (0 : Int) ≤ (k : Int) := by omega
      have hk2 : (k : Int) < (l.length : Int) := by omega
      have lt0 : w.heap.size < wr.heap.size := hsz
      have hjn := Tk.jnTo_le l (k + 1) l.length (by omega)
      have hstep := Tk.jnTo_step l k t (unhide HT)
      have HJ := hide hjn
      have HST := hide hstep
      clear hjn hstep
      by_cases h0 : (0 : Int) < (k : Int)
      · have hj1 : (Tk.jnTo l k).length + 1 + t.2.2.size ≤ 6000 := by
          have a := unhide HJ; rw [unhide HST, if_neg (by omega)] at a
          simp only [List.length_append, List.length_cons, List.length_nil, Array.length_toList] at a
          have e : t.2.2.data.size = t.2.2.size := rfl
          omega
        go_wp2_with fail
        refine (Try.Builder_WriteByte_k w.heap.size w.heap.size _ 32 _ ((unhide HI).alloc _) (by rw [Lib.byteCells_length]; omega) (by simp; omega)).mono ?_
        rintro e w1 ⟨rfl, hat, hbe1, hok⟩
        have hblk := hok wr.heap.size _ (heap_alloc_new wr _) (by simp; omega) (by intro c fz h; cases h)
        have ht2 : w1.cell? ⟨wr.heap.size, 2, none⟩ = some (.string t.2.2) := by rw [cell_of_row w1 _ 2 _ _ _ hblk]; rfl
        have hz1 := hbe1.size
        simp at hz1
        have HA := hide hat
        have HB1 := hide hbe1
        clear hat hbe1 hok hblk
        go_wp2_with fail
        refine (Try.Builder_WriteString_k w.heap.size w.heap.size _ t.2.2 _ (.inr (unhide HA)) (by rw [List.length_append, Lib.byteCells_length]; simp; omega) (by omega)).mono ?_
        rintro e w2 ⟨rfl, hat2, hbe2, hok2⟩
        have hz2 := hbe2.size
        have HA2 := hide hat2
        have HB2 := hide hbe2
        clear hat2 hbe2 hok2
        go_wp2_with fail
        refine ⟨⟨k + 1, by omega, by go_num, .inr ?_, (((unhide HBE).alloc (by omega) _).trans (unhide HB1)).trans (unhide HB2), by omega⟩, by simp [intOf]; omega⟩
        have := unhide HA2
        rw [unhide HST, if_neg (by omega), Lib.byteCells_append, Lib.byteCells_append]
        exact this
      · have hj1 : (Tk.jnTo l k).length + t.2.2.size ≤ 6000 := by
          have a := unhide HJ; rw [unhide HST, if_pos (by omega)] at a
          simp only [List.length_append, List.length_nil, Array.length_toList] at a
          have e : t.2.2.data.size = t.2.2.size := rfl
          omega
        go_wp2_with fail
        refine (Try.Builder_WriteString_k w.heap.size w.heap.size _ t.2.2 _ ((unhide HI).alloc _) (by rw [Lib.byteCells_length]; omega) (by simp; omega)).mono ?_
        rintro e w2 ⟨rfl, hat2, hbe2, hok2⟩
        have hz2 := hbe2.size
        simp at hz2
        have HA2 := hide hat2
        have HB2 := hide hbe2
        clear hat2 hbe2 hok2
        go_wp2_with fail
        refine ⟨⟨k + 1, by omega, by go_num, .inr ?_, ((unhide HBE).alloc (by omega) _).trans (unhide HB2), by omega⟩, by simp [intOf]; omega⟩
        have := unhide HA2
        rw [unhide HST, if_pos (by omega), List.append_nil, Lib.byteCells_append]
        exact this
    · have hkl : k = l.length := by omega
      subst hkl
      go_wp2_with fail
      refine (Try.Builder_String_any_k w.heap.size w.heap.size _ _ (unhide HI) (by omega)).mono ?_
      rintro e w1 ⟨rfl, _, hbe1, _⟩
      have HB1 := hide hbe1
      clear hbe1
      go_wp2_with fail
      go_ret
      exact ⟨rfl, (unhide HBE).trans (unhide HB1)⟩
end Go.Proofs.Ytnfigfedijhiiaa
