/-
  What is joined is scanned as it was. By the verifier.
-/
import Derived.Test.YtnfigfedijhiiaaBackLem
import Derived.Test.YtnfigfedijhiiaaPlaces
namespace Go.Proofs.Ytnfigfedijhiiaa
open Go.RowKit
set_option linter.unusedVariables false

/-- The bytes of a list as numbers. -/
def Tk.L (l : List UInt8) : List Int := l.map fun c => (c.toNat : Int)
theorem Tk.B_mk (l : List UInt8) : Tk.B ⟨l.toArray⟩ = Tk.L l := rfl
theorem Tk.B_L (s : ByteArray) : Tk.B s = Tk.L s.data.toList := rfl
theorem Tk.L_append (a b : List UInt8) : Tk.L (a ++ b) = Tk.L a ++ Tk.L b := by simp [Tk.L]
theorem Tk.L_length (a : List UInt8) : (Tk.L a).length = a.length := by simp [Tk.L]

/-- Texts with blanks between, from the first on. -/
def Tk.jt : Bool → List (Int × Int × ByteArray) → List UInt8
  | _, [] => []
  | first, t :: r => (if first then [] else [32]) ++ (t.2.2.data.toList ++ Tk.jt false r)

/-- Where they stand. -/
def Tk.pt : Bool → Nat → List (Int × Int × ByteArray) → List (Nat × Nat × Nat)
  | _, _, [] => []
  | first, pos, t :: r => (Tk.tokK (Tk.B t.2.2), pos + (if first then 0 else 1), t.2.2.size) :: Tk.pt false (pos + (if first then 0 else 1) + t.2.2.size) r

theorem Tk.jt_apart (r : List (Int × Int × ByteArray)) : Tk.apart (Tk.L (Tk.jt false r)) := by
  cases r with
  | nil => exact Or.inl rfl
  | cons t r => exact Or.inr ⟨Tk.L (t.2.2.data.toList ++ Tk.jt false r), rfl⟩

theorem Tk.jn_jt (l : List (Int × Int × ByteArray)) : ∀ k, k ≤ l.length → Tk.jnTo l k ++ Tk.jt (decide (k = 0)) (l.drop k) = Tk.jt true l := by
  intro k
  induction k with
  | zero => intro _; rfl
  | succ k ih =>
    intro hk
    have hlt : k < l.length := by omega
    have hx := List.getElem?_eq_getElem hlt
    have hd := List.drop_eq_getElem_cons hlt
    generalize l[k] = t at *
    rw [Tk.jnTo_step l k t hx, ← ih (by omega), hd]
    have e1 : decide (k + 1 = 0) = false := by simp
    rw [e1, List.append_assoc, List.append_assoc]
    by_cases h0 : k = 0
    · subst h0
      simp [Tk.jt]
    · rw [if_neg h0, decide_eq_false h0]
      simp [Tk.jt]

theorem Tk.jn_all (l : List (Int × Int × ByteArray)) : Tk.jnTo l l.length = Tk.jt true l := by
  have := Tk.jn_jt l l.length (Nat.le_refl _)
  rw [List.drop_length] at this
  simpa [Tk.jt] using this

theorem Tk.scan_jt : ∀ (l : List (Int × Int × ByteArray)) (first : Bool) (pos : Nat) (acc : List (Nat × Nat × Nat)), (∀ t ∈ l, Tk.isTok t.1 (Tk.B t.2.2) = true) →
    Tk.scl (Tk.L (Tk.jt first l)) pos 0 false acc = (acc ++ Tk.pt first pos l, 0, 0) := by
  intro l
  induction l with
  | nil => intro first pos acc _; show Tk.scl [] pos 0 false acc = _; rw [Tk.scl_nil]; simp [Tk.pt]
  | cons t r ih =>
    intro first pos acc h
    obtain ⟨_, hg, hb, hk, hn⟩ := (Tk.isTok_iff _ _).1 (h t (by simp))
    have hr := fun u hu => h u (List.mem_cons_of_mem _ hu)
    have hsz : (Tk.B t.2.2).length = t.2.2.size := Tk.B_length _
    have body : ∀ p acc, Tk.scl (Tk.B t.2.2 ++ Tk.L (Tk.jt false r)) p 0 false acc = (acc ++ ((Tk.tokK (Tk.B t.2.2), p, t.2.2.size) :: Tk.pt false (p + t.2.2.size) r), 0, 0) := by
      intro p acc
      cases hB : Tk.B t.2.2 with
      | nil => rw [hB] at hb; cases hb
      | cons c q =>
        rw [hB] at hg hb hn hsz
        obtain ⟨a1, a2, a3⟩ := Tk.tok_apart c q _ (Tk.jt_apart r) hn hb
        rw [List.cons_append] at a1 a2 a3 ⊢
        rw [Tk.scl_tok c _ p acc ((Tk.gap_free c q).1 hg) a3, a1, a2, hsz]
        rw [← List.cons_append, List.drop_append_of_le_length (by omega), ← hsz, List.drop_length, List.nil_append, hsz, ih false _ _ hr]
        simp
    cases first
    · have e : Tk.L (Tk.jt false (t :: r)) = 32 :: (Tk.B t.2.2 ++ Tk.L (Tk.jt false r)) := by
        show Tk.L ([32] ++ (t.2.2.data.toList ++ Tk.jt false r)) = _
        rw [Tk.L_append, Tk.L_append]; rfl
      rw [e, Tk.scl_blank 32 _ _ _ (by decide) (by decide), body]
      rfl
    · have e : Tk.L (Tk.jt true (t :: r)) = Tk.B t.2.2 ++ Tk.L (Tk.jt false r) := by
        show Tk.L ([] ++ (t.2.2.data.toList ++ Tk.jt false r)) = _
        rw [List.nil_append, Tk.L_append]; rfl
      rw [e, body]
      rfl

theorem Tk.pt_length : ∀ (l : List (Int × Int × ByteArray)) (first : Bool) (pos : Nat), (Tk.pt first pos l).length = l.length := by
  intro l
  induction l with
  | nil => intro _ _; rfl
  | cons t r ih => intro first pos; show (Tk.pt false _ r).length + 1 = _; rw [ih]; rfl

/-- Each text stands where it is told. -/
theorem Tk.pt_text : ∀ (l : List (Int × Int × ByteArray)) (first : Bool) (pre : List UInt8) (i : Nat) (t : Int × Int × ByteArray) (u : Nat × Nat × Nat), l[i]? = some t → (Tk.pt first pre.length l)[i]? = some u →
    u.1 = Tk.tokK (Tk.B t.2.2) ∧ u.2.2 = t.2.2.size ∧ ((pre ++ Tk.jt first l).drop u.2.1).take u.2.2 = t.2.2.data.toList := by
  intro l
  induction l with
  | nil => intro _ _ i t u h; simp at h
  | cons x r ih =>
    intro first pre i t u ht hu
    have hx : x.2.2.data.toList.length = x.2.2.size := by rw [Array.length_toList]; rfl
    cases i with
    | zero =>
      simp at ht
      subst ht
      have hu' : some (Tk.tokK (Tk.B x.2.2), pre.length + (if first then 0 else 1), x.2.2.size) = some u := hu
      injection hu' with hu'
      subst hu'
      refine ⟨rfl, rfl, ?_⟩
      show ((pre ++ ((if first then [] else [32]) ++ (x.2.2.data.toList ++ Tk.jt false r))).drop (pre.length + (if first then 0 else 1))).take x.2.2.size = _
      rw [← List.append_assoc pre]
      have hl : (pre ++ (if first then [] else [32]) : List UInt8).length = pre.length + (if first then 0 else 1) := by cases first <;> simp
      rw [← hl, List.drop_left, ← hx, List.take_left]
    | succ i =>
      rw [List.getElem?_cons_succ] at ht
      have hu' : (Tk.pt false (pre.length + (if first then 0 else 1) + x.2.2.size) r)[i]? = some u := hu
      have hl : (pre ++ (if first then [] else [32]) ++ x.2.2.data.toList : List UInt8).length = pre.length + (if first then 0 else 1) + x.2.2.size := by cases first <;> simp [hx] <;> omega
      rw [← hl] at hu'
      obtain ⟨h1, h2, h3⟩ := ih false _ i t u ht hu'
      refine ⟨h1, h2, ?_⟩
      have e : pre ++ Tk.jt first (x :: r) = pre ++ (if first then [] else [32]) ++ x.2.2.data.toList ++ Tk.jt false r := by
        show pre ++ ((if first then [] else [32]) ++ (x.2.2.data.toList ++ Tk.jt false r)) = _
        simp only [List.append_assoc]
      rw [e]
      exact h3

/-- What is joined is scanned as it was. -/
theorem Tk.join_scan (l : List (Int × Int × ByteArray)) (h : (Tk.joinR l).2 = 0) :
    (Tk.scanR (Tk.joinR l).1).2.2 = 0 ∧ (Tk.toks (Tk.joinR l).1 (Tk.scanR (Tk.joinR l).1).1).length = l.length ∧
    ∀ (i : Nat) t u, l[i]? = some t → (Tk.toks (Tk.joinR l).1 (Tk.scanR (Tk.joinR l).1).1)[i]? = some u → t.1 = u.1 ∧ t.2.2 = u.2.2 := by
  have hat : Tk.allTok l = true := by
    cases ha : Tk.allTok l
    · unfold Tk.joinR at h; rw [ha] at h; cases h
    · rfl
  have h6 : ¬ 6000 < (Tk.jnTo l l.length).length := by
    intro hh; unfold Tk.joinR at h; rw [hat, if_pos rfl, if_pos hh] at h; cases h
  have hR : Tk.joinR l = (⟨(Tk.jnTo l l.length).toArray⟩, 0) := by unfold Tk.joinR; rw [hat, if_pos rfl, if_neg h6]
  have hall : ∀ t ∈ l, Tk.isTok t.1 (Tk.B t.2.2) = true := List.all_eq_true.1 hat
  rw [hR, Tk.jn_all]
  rw [Tk.jn_all] at h6
  have hsc := Tk.scan_jt l true 0 [] hall
  have hs : Tk.scanR ⟨(Tk.jt true l).toArray⟩ = (Tk.pt true 0 l, 0, 0) := by
    rw [Tk.scanR_small _ (by show (Tk.jt true l).toArray.size ≤ 6000; rw [List.size_toArray]; omega), Tk.B_mk, hsc]
    simp
  rw [hs]
  refine ⟨rfl, by rw [Tk.toks_length, Tk.pt_length], ?_⟩
  intro i t u ht hu
  unfold Tk.toks at hu
  rw [List.getElem?_map] at hu
  cases hx : (Tk.pt true 0 l)[i]? with
  | none => rw [hx] at hu; cases hu
  | some x =>
    rw [hx] at hu
    simp at hu
    subst hu
    obtain ⟨h1, h2, h3⟩ := Tk.pt_text l true [] i t x ht hx
    have hk := ((Tk.isTok_iff _ _).1 (hall t (List.mem_of_getElem? ht))).2.2.2.1
    refine ⟨by rw [h1]; exact hk.symm, ?_⟩
    show t.2.2 = (⟨(Tk.jt true l).toArray⟩ : ByteArray).extract x.2.1 (x.2.1 + x.2.2)
    rw [Lib.extract_eq]
    apply ByteArray.ext
    show t.2.2.data = _
    rw [Nat.add_sub_cancel_left]
    rw [List.nil_append] at h3
    show t.2.2.data = (((Tk.jt true l).drop x.2.1).take x.2.2).toArray
    rw [h3]

/-- What is scanned can be joined, if it is not too long. -/
theorem Tk.scan_join (s : ByteArray) (h : (Tk.scanR s).2.2 = 0) : (Tk.joinR (Tk.toks s (Tk.scanR s).1)).2 = 0 ∨ (Tk.joinR (Tk.toks s (Tk.scanR s).1)).2 = 2 := by
  have hs := Tk.scanR_6000 s h
  have hat : Tk.allTok (Tk.toks s (Tk.scanR s).1) = true := by
    unfold Tk.allTok Tk.toks
    rw [List.all_eq_true]
    intro t ht
    obtain ⟨x, hx, rfl⟩ := List.mem_map.1 ht
    rw [Tk.scanR_small s hs] at h hx
    obtain ⟨m, h1, h2⟩ := Tk.scl_toks (Tk.B s) 0 0 false [] h
    rw [h1, List.nil_append] at hx
    obtain ⟨j, hj, hk⟩ := h2 x hx
    have e : Tk.B (s.extract x.2.1 (x.2.1 + x.2.2)) = ((Tk.B s).drop j).take x.2.2 := by
      rw [Tk.B_L, Lib.extract_data, Tk.B_L, Nat.add_sub_cancel_left, hj, Nat.zero_add]
      simp [Tk.L, List.map_take, List.map_drop]
    show Tk.isTok (x.1 : Int) (Tk.B (s.extract x.2.1 (x.2.1 + x.2.2))) = true
    rw [e]; exact hk
  unfold Tk.joinR
  rw [hat, if_pos rfl]
  split
  · exact Or.inr rfl
  · exact Or.inl rfl

end Go.Proofs.Ytnfigfedijhiiaa
