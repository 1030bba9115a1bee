/-
  The contract of isAlone of package token. By the verifier.
-/
import Derived.Test.YtnfigfedijhiiaaScan
import Derived.Test.YtnfigfedijhiiaaIsTok
import Derived.Deep.QuietTactic
import Derived.BigQuiet
namespace Go.Proofs.Ytnfigfedijhiiaa
open Go.RowKit
set_option linter.unusedVariables false

theorem ownsRow_slice {w : World} {base : Nat} {e : TypeId} {size : Nat} {v : Value} {n : Nat} {xs : List Value} (h : w.ownsRow base e size v n xs) : ∃ ad cap, v = .slice ad n cap := by
  rcases h.2 with ⟨hv, hn⟩ | ⟨g, cap, cur, hv, _⟩
  · subst hn; exact ⟨none, 0, hv⟩
  · exact ⟨_, cap, hv⟩

theorem Tk.text_eq (a b : ByteArray) : (a.toList == b.toList) = true ↔ a = b := by
  rw [beq_iff_eq, ByteArray.toList_eq, ByteArray.toList_eq]
  constructor
  · intro h
    obtain ⟨⟨x⟩⟩ := a; obtain ⟨⟨y⟩⟩ := b
    simp only at h; rw [h]
  · intro h; rw [h]

set_option maxHeartbeats 800000 in
theorem isAlone_err (k at_ : Int) (t : ByteArray) (w : World) (ht : t.size ≤ maxLen) (he : (((Tk.scanR t).2.2 : Int) == 0) = false) :
    Calls Try.prog 15 #[.agg #[.int .i64 k, .int .i64 at_, .string t]] w fun e w' => e = .returned (.bool false) ∧ Below w.heap.size w w' := by
  have HT := hide ht
  clear ht
  go_enter Try.func15, Try.ntmps15
  go_wp2_with fail
  refine (Scan_any t _ (unhide HT)).mono ?_
  rintro e w' ⟨v, rfl, ho, hb⟩
  have HB := hide hb
  clear ho hb
  go_wp2_with fail
  go_quiet (fail)
  go_wp2_with fail
  go_ret
  exact ⟨rfl, below_drewN (below_two (unhide HB)) _⟩

set_option maxHeartbeats 800000 in
theorem isAlone_len (k at_ : Int) (t : ByteArray) (w : World) (ht : t.size ≤ maxLen) (he : (((Tk.scanR t).2.2 : Int) == 0) = true) (hl : (((Tk.scanR t).1.length : Int) == 1) = false) :
    Calls Try.prog 15 #[.agg #[.int .i64 k, .int .i64 at_, .string t]] w fun e w' => e = .returned (.bool false) ∧ Below w.heap.size w w' := by
  have HT := hide ht
  clear ht
  go_enter Try.func15, Try.ntmps15
  go_wp2_with fail
  refine (Scan_any t _ (unhide HT)).mono ?_
  rintro e w' ⟨v, rfl, ho, hb⟩
  obtain ⟨ad, cap, rfl⟩ := ownsRow_slice ho
  have HB := hide hb
  clear ho hb
  go_wp2_with fail
  go_quiet (fail)
  go_wp2_with fail
  go_ret
  exact ⟨rfl, below_drewN (below_two (unhide HB)) _⟩

set_option maxHeartbeats 800000 in
theorem isAlone_kind (k at_ : Int) (t : ByteArray) (w : World) (ht : t.size ≤ maxLen) (x : Nat × Nat × Nat) (he : (((Tk.scanR t).2.2 : Int) == 0) = true) (hR : (Tk.scanR t).1 = [x]) (hk : ((x.1 : Int) == k) = false) :
    Calls Try.prog 15 #[.agg #[.int .i64 k, .int .i64 at_, .string t]] w fun e w' => e = .returned (.bool false) ∧ Below w.heap.size w w' := by
  have HT := hide ht
  clear ht
  go_enter Try.func15, Try.ntmps15
  go_wp2_with fail
  refine (Scan_any t _ (unhide HT)).mono ?_
  rintro e w' ⟨v, rfl, ho, hb⟩
  obtain ⟨hc, hf⟩ := bcell hb
  have hz := hb.size
  simp at hz
  rw [hR] at ho
  obtain ⟨g, cap, rfl, hg1, hg2⟩ := ho.form (by simp)
  have t0 : w'.cell? ⟨g, 0, none⟩ = some (.int .i64 (x.1 : Int)) := ho.cells (g := g) rfl 0 _ rfl
  have t2 : w'.cell? ⟨g, 2, none⟩ = some (.string (t.extract x.2.1 (x.2.1 + x.2.2))) := ho.cells (g := g) rfl 2 _ rfl
  have b0 : w'.cell? ⟨w.heap.size, 0, none⟩ = some (.int .i64 k) := (hc _ _ (by simp)).trans (by simp)
  have b2 : w'.cell? ⟨w.heap.size, 2, none⟩ = some (.string t) := (hc _ _ (by simp)).trans (by simp)
  clear hc hf
  rw [show [x].length = 1 from rfl]
  clear hR
  have HB := hide hb
  clear ho hb
  go_wp2_with fail
  go_quiet (fail)
  go_wp2_with fail
  go_ret
  exact ⟨rfl, below_drewN (below_two (unhide HB)) _⟩

set_option maxHeartbeats 800000 in
theorem isAlone_text (k at_ : Int) (t : ByteArray) (w : World) (ht : t.size ≤ maxLen) (x : Nat × Nat × Nat) (he : (((Tk.scanR t).2.2 : Int) == 0) = true) (hR : (Tk.scanR t).1 = [x]) (hk : ((x.1 : Int) == k) = true) (b : Bool) (hx : ((t.extract x.2.1 (x.2.1 + x.2.2)).toList == t.toList) = b) :
    Calls Try.prog 15 #[.agg #[.int .i64 k, .int .i64 at_, .string t]] w fun e w' => e = .returned (.bool b) ∧ Below w.heap.size w w' := by
  subst hx
  have HT := hide ht
  clear ht
  go_enter Try.func15, Try.ntmps15
  go_wp2_with fail
  refine (Scan_any t _ (unhide HT)).mono ?_
  rintro e w' ⟨v, rfl, ho, hb⟩
  obtain ⟨hc, hf⟩ := bcell hb
  have hz := hb.size
  simp at hz
  rw [hR] at ho
  obtain ⟨g, cap, rfl, hg1, hg2⟩ := ho.form (by simp)
  have t0 : w'.cell? ⟨g, 0, none⟩ = some (.int .i64 (x.1 : Int)) := ho.cells (g := g) rfl 0 _ rfl
  have t2 : w'.cell? ⟨g, 2, none⟩ = some (.string (t.extract x.2.1 (x.2.1 + x.2.2))) := ho.cells (g := g) rfl 2 _ rfl
  have b0 : w'.cell? ⟨w.heap.size, 0, none⟩ = some (.int .i64 k) := (hc _ _ (by simp)).trans (by simp)
  have b2 : w'.cell? ⟨w.heap.size, 2, none⟩ = some (.string t) := (hc _ _ (by simp)).trans (by simp)
  clear hc hf
  rw [show [x].length = 1 from rfl]
  clear hR
  have HB := hide hb
  clear ho hb
  go_wp2_with fail
  go_quiet (fail)
  go_wp2_with fail
  go_ret
  exact ⟨rfl, below_drewN (below_two (unhide HB)) _⟩

theorem Tk.extract_whole (t : ByteArray) (a n : Nat) (h : t.extract a (a + n) = t) (hp : 0 < t.size) : a = 0 ∧ t.size ≤ n := by
  have := congrArg ByteArray.size h
  rw [ByteArray.size_extract] at this
  omega

theorem Tk.scanR_small (t : ByteArray) (h : t.size ≤ 6000) : Tk.scanR t = Tk.scl (Tk.B t) 0 0 false [] := by
  unfold Tk.scanR; rw [if_neg (by omega)]

theorem isAlone_any (k at_ : Int) (t : ByteArray) (w : World) (ht : t.size ≤ maxLen) :
    Calls Try.prog 15 #[.agg #[.int .i64 k, .int .i64 at_, .string t]] w fun e w' => e = .returned (.bool (Tk.isTok k (Tk.B t))) ∧ Below w.heap.size w w' := by
  cases hi : Tk.isTok k (Tk.B t)
  · by_cases he : (Tk.scanR t).2.2 = 0
    · have he' : (((Tk.scanR t).2.2 : Int) == 0) = true := by rw [he]; rfl
      by_cases hl : (Tk.scanR t).1.length = 1
      · have hs : t.size ≤ 6000 := by
          apply Classical.byContradiction; intro h
          have : Tk.scanR t = ([], 0, 2) := by unfold Tk.scanR; rw [if_pos (by omega)]
          rw [this] at he; cases he
        rw [Tk.scanR_small t hs] at he hl
        obtain ⟨c, r, hd, hf, hb, hR⟩ := Tk.scl_first (Tk.B t) 0 he hl
        have hR' : (Tk.scanR t).1 = [(Tk.tokK (c :: r), 0 + Tk.gap false (Tk.B t), Tk.tokN (c :: r))] := by rw [Tk.scanR_small t hs]; exact hR
        cases hk : (((Tk.tokK (c :: r) : Nat) : Int) == k)
        · exact isAlone_kind k at_ t w ht _ he' hR' hk
        · refine isAlone_text k at_ t w ht _ he' hR' hk false ?_
          apply Bool.eq_false_iff.2
          intro hx
          rw [Tk.text_eq] at hx
          have hp : 0 < t.size := by
            apply Classical.byContradiction; intro h
            have : Tk.B t = [] := List.eq_nil_of_length_eq_zero (by rw [Tk.B_length]; omega)
            rw [this] at hd; simp at hd
          obtain ⟨h0, hn⟩ := Tk.extract_whole t _ _ hx hp
          have hg : Tk.gap false (Tk.B t) = 0 := by simpa using h0
          rw [hg, List.drop_zero] at hd
          have hle := Tk.tokN_le (Tk.B t)
          rw [hd] at hle
          rw [← hd, Tk.B_length] at hle
          have : Tk.isTok k (Tk.B t) = true := (Tk.isTok_iff k _).2 ⟨by rw [Tk.B_length]; exact hs, hg, by rw [hd]; exact hb, by rw [hd]; simpa using hk, by rw [Tk.B_length]; rw [hd] at hle ⊢; simp only at hn; omega⟩
          rw [this] at hi; cases hi
      · exact isAlone_len k at_ t w ht he' (by rw [beq_eq_false_iff_ne]; omega)
    · exact isAlone_err k at_ t w ht (by rw [beq_eq_false_iff_ne]; omega)
  · obtain ⟨hs, hg, hb, hk, hn⟩ := (Tk.isTok_iff k _).1 hi
    have hsc := Tk.isTok_scan k _ hi
    rw [Tk.B_length] at hs
    have hR : Tk.scanR t = ([(Tk.tokK (Tk.B t), 0, (Tk.B t).length)], 0, 0) := by rw [Tk.scanR_small t hs]; exact hsc
    refine isAlone_text k at_ t w ht (Tk.tokK (Tk.B t), 0, (Tk.B t).length) (by rw [hR]; rfl) (by rw [hR]) (by simpa using hk) true ?_
    rw [Tk.text_eq, Tk.B_length]
    simp

end Go.Proofs.Ytnfigfedijhiiaa
