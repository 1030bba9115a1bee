/-
  Contracts of slices.Clone at sectors and at writes. By the verifier.
-/
import Derived.Test.YtpabpcojiaklfaaDRefCheck
import Derived.Laws.AppendOwn
import Derived.OwnWalk
import Derived.Lib.SliceRun
namespace Go.Proofs.Ytpabpcojiaklfaa
open Go.RowKit
set_option linter.unusedVariables false

theorem Try.infoS : (Try.prog.info? 9).map (fun i => (i.zero, i.size, i.bytes)) = some (some (.string ⟨#[]⟩), 1, 16) := by kernel_rfl
theorem Try.infoW : (Try.prog.info? 68).map (fun i => (i.zero, i.size, i.bytes)) = some (some (.agg #[.int .i64 0, .string ⟨#[]⟩]), 2, 24) := by kernel_rfl

theorem info_of {P : Program} {t : TypeId} {z : Option Value} {s b : Nat} (h : (P.info? t).map (fun i => (i.zero, i.size, i.bytes)) = some (z, s, b)) : ∃ i, P.info? t = some i ∧ i.zero = z ∧ i.size = s ∧ i.bytes = b := by
  cases hi : P.info? t with
  | none => rw [hi] at h; cases h
  | some i => rw [hi] at h; simp at h; exact ⟨i, rfl, h.1, h.2.1, h.2.2⟩

/-- The cells of writes. -/
def Dk.wcells (l : List (Int × ByteArray)) : List Value := l.flatMap fun x => [.int .i64 x.1, .string x.2]

theorem Dk.wcells_length (l : List (Int × ByteArray)) : (Dk.wcells l).length = l.length * 2 := by
  induction l with
  | nil => rfl
  | cons x r ih => simp only [Dk.wcells, List.flatMap_cons, List.length_append, List.length_cons, List.length_nil] at ih ⊢; omega

theorem Dk.wcells_at (l : List (Int × ByteArray)) : ∀ (i : Nat) (x : Int × ByteArray), l[i]? = some x → (Dk.wcells l)[i * 2]? = some (.int .i64 x.1) ∧ (Dk.wcells l)[i * 2 + 1]? = some (.string x.2) := by
  induction l with
  | nil => intro i x h; simp at h
  | cons y r ih =>
    intro i x h
    have e : Dk.wcells (y :: r) = .int .i64 y.1 :: .string y.2 :: Dk.wcells r := rfl
    cases i with
    | zero => simp at h; subst h; simp [e]
    | succ i =>
      rw [List.getElem?_cons_succ] at h
      obtain ⟨h1, h2⟩ := ih i x h
      have e0 : (i + 1) * 2 = i * 2 + 1 + 1 := by omega
      rw [e, e0]
      exact ⟨h1, h2⟩

theorem Dk.wcells_of (l : List (Int × ByteArray)) (j : Nat) (u : Value) (h : (Dk.wcells l)[j]? = some u) : ∃ i x, l[i]? = some x ∧ ((j = i * 2 ∧ u = .int .i64 x.1) ∨ (j = i * 2 + 1 ∧ u = .string x.2)) := by
  have hj : j < l.length * 2 := by have := (List.getElem?_eq_some_iff.1 h).1; rw [Dk.wcells_length] at this; exact this
  have hi : j / 2 < l.length := by omega
  obtain ⟨x, hx⟩ : ∃ x, l[j / 2]? = some x := ⟨l[j / 2], List.getElem?_eq_getElem hi⟩
  obtain ⟨h1, h2⟩ := Dk.wcells_at l _ x hx
  refine ⟨j / 2, x, hx, ?_⟩
  by_cases e : j % 2 = 0
  · left
    have ej : j = j / 2 * 2 := by omega
    rw [← ej] at h1
    rw [h1] at h
    exact ⟨ej, (Option.some.inj h).symm⟩
  · right
    have ej : j = j / 2 * 2 + 1 := by omega
    rw [← ej] at h2
    rw [h2] at h
    exact ⟨ej, (Option.some.inj h).symm⟩

theorem Dk.add_at (g o j : Nat) : (⟨g, o, none⟩ : Addr).add j = ⟨g, o + j, none⟩ := by unfold Addr.add; split <;> simp_all

theorem Dk.cell_alloc {w : World} {a : Addr} {v : Value} {o : Obj} (h : w.cell? a = some v) : (w.alloc o).cell? a = some v := by
  rw [← h]
  exact ((Below.refl w.heap.size w).alloc (Nat.le_refl _) o).cell (World.block_lt_of_cell? w _ h)

theorem Dk.one_s (l : List ByteArray) : ∀ u ∈ l.map Value.string, u.oneCell' = true := by
  intro u hu; obtain ⟨x, _, rfl⟩ := List.mem_map.1 hu; rfl

theorem Dk.one_w (l : List (Int × ByteArray)) : ∀ u ∈ Dk.wcells l, u.oneCell' = true := by
  intro u hu
  obtain ⟨j, hj⟩ := List.getElem?_of_mem hu
  obtain ⟨i, x, _, ⟨_, rfl⟩ | ⟨_, rfl⟩⟩ := Dk.wcells_of l j u hj <;> rfl

set_option maxHeartbeats 800000 in
theorem cloneK_at (l : List ByteArray) (a : Addr) (cap : Nat) (w : World) (hc : ∀ j u, (l.map Value.string)[j]? = some u → w.cell? (a.add j) = some u) (hl : l.length ≤ 600) :
    Calls Try.prog 60 #[.slice (some a) l.length cap] w fun e w' => ∃ v, e = .returned v ∧ w'.ownsRow w.heap.size 9 1 v l.length (l.map Value.string) ∧ Below w.heap.size w w' := by
  obtain ⟨i0, hi, hz0, hz1, hz2⟩ := info_of Try.infoS
  have HNW := hide (fun j u hj => Dk.cell_alloc (o := .cells #[] 9) (hc j u hj))
  have HOW := hide (World.ownsRow_made (base := w.heap.size) (e := 9) (size := 1) w #[] 0 (Nat.le_refl _) (Nat.zero_le _) (by simp))
  have HI := hide hi
  have HZ0 := hide hz0
  have HZ1 := hide hz1
  have HZ2 := hide hz2
  clear hc hi hz0 hz1 hz2
  have q22 : ∀ (w : World) (a : Option Addr) (n c n' c' : Nat), (binOp .eql 26 (.slice a n c) (.slice none n' c')).run Try.prog w = .ok (.bool a.isNone) w := fun w a n c n' c' => Lib.run_eql_slice_nil w _ _ a n c n' c' Try.underlying26
  go_enter Try.func60, Try.ntmps60
  go_wp2_with (at_builtin; refine wpList_append_own _ (by rfl) _ _ _ (by rfl) w.heap.size 9 i0 _ 1 16 Try.underlying26 (unhide HI) (unhide HZ0) (unhide HZ1) (unhide HZ2) rfl (by omega) (.slice (some ⟨w.heap.size, 0, none⟩) 0 0) 0 [] (by rfl) (unhide HOW) a l.length cap (l.map Value.string) (by rfl) (by simp) (unhide HNW) (Dk.one_s l) (by unfold maxLen; omega) (by omega) (by simp) ?_; intro v' w1 hown hgrow hnil; have HO := hide hown; have HG := hide hgrow; clear hown hgrow hnil)
  go_ret
  refine ⟨v', rfl, by have := unhide HO; rw [Nat.zero_add, List.nil_append] at this; exact this, ?_⟩
  exact ((Below.refl _ w).alloc (Nat.le_refl _) _).grown (unhide HG) (by simp) (by intro k hk; simp [Value.ownBlock] at hk; omega)

set_option maxHeartbeats 800000 in
theorem cloneW_at (l : List (Int × ByteArray)) (a : Addr) (cap : Nat) (w : World) (hc : ∀ j u, (Dk.wcells l)[j]? = some u → w.cell? (a.add j) = some u) (hl : l.length ≤ 600) :
    Calls Try.prog 61 #[.slice (some a) l.length cap] w fun e w' => ∃ v, e = .returned v ∧ w'.ownsRow w.heap.size 68 2 v l.length (Dk.wcells l) ∧ Below w.heap.size w w' := by
  obtain ⟨i0, hi, hz0, hz1, hz2⟩ := info_of Try.infoW
  have HNW := hide (fun j u hj => Dk.cell_alloc (o := .cells #[] 68) (hc j u hj))
  have HOW := hide (World.ownsRow_made (base := w.heap.size) (e := 68) (size := 2) w #[] 0 (Nat.le_refl _) (Nat.zero_le _) (by simp))
  have HI := hide hi
  have HZ0 := hide hz0
  have HZ1 := hide hz1
  have HZ2 := hide hz2
  clear hc hi hz0 hz1 hz2
  have q22 : ∀ (w : World) (a : Option Addr) (n c n' c' : Nat), (binOp .eql 27 (.slice a n c) (.slice none n' c')).run Try.prog w = .ok (.bool a.isNone) w := fun w a n c n' c' => Lib.run_eql_slice_nil w _ _ a n c n' c' Try.underlying27
  go_enter Try.func61, Try.ntmps61
  go_wp2_with (at_builtin; refine wpList_append_own _ (by rfl) _ _ _ (by rfl) w.heap.size 68 i0 _ 2 24 Try.underlying27 (unhide HI) (unhide HZ0) (unhide HZ1) (unhide HZ2) rfl (by omega) (.slice (some ⟨w.heap.size, 0, none⟩) 0 0) 0 [] (by rfl) (unhide HOW) a l.length cap (Dk.wcells l) (by rfl) (Dk.wcells_length l) (unhide HNW) (Dk.one_w l) (by unfold maxLen; omega) (by omega) (by simp) ?_; intro v' w1 hown hgrow hnil; have HO := hide hown; have HG := hide hgrow; clear hown hgrow hnil)
  go_ret
  refine ⟨v', rfl, by have := unhide HO; rw [Nat.zero_add, List.nil_append] at this; exact this, ?_⟩
  exact ((Below.refl _ w).alloc (Nat.le_refl _) _).grown (unhide HG) (by simp) (by intro k hk; simp [Value.ownBlock] at hk; omega)

set_option maxHeartbeats 400000 in
theorem cloneW_nil (n cap : Nat) (w : World) :
    Calls Try.prog 61 #[.slice none n cap] w fun e w' => e = .returned (.slice none 0 0) ∧ w' = w := by
  have q22 : ∀ (w : World) (a : Option Addr) (n c n' c' : Nat), (binOp .eql 27 (.slice a n c) (.slice none n' c')).run Try.prog w = .ok (.bool a.isNone) w := fun w a n c n' c' => Lib.run_eql_slice_nil w _ _ a n c n' c' Try.underlying27
  go_enter Try.func61, Try.ntmps61
  go_wp2
  go_ret
  exact ⟨rfl, rfl⟩

theorem Dk.RK.news {w : World} {a : Addr} {l : List ByteArray} (h : Dk.RK w (some a) l) : ∀ j u, (l.map Value.string)[j]? = some u → w.cell? (a.add j) = some u := by
  intro j u hu
  rw [List.getElem?_map] at hu
  cases hx : l[j]? with
  | none => rw [hx] at hu; cases hu
  | some s =>
    rw [hx] at hu
    simp at hu
    subst hu
    obtain ⟨b, o, h1, _, h3, _⟩ := h.at_ j s hx
    cases h1
    rw [Dk.add_at]; exact h3

theorem Dk.RW.news {w : World} {a : Addr} {l : List (Int × ByteArray)} (h : Dk.RW w (some a) l) : ∀ j u, (Dk.wcells l)[j]? = some u → w.cell? (a.add j) = some u := by
  intro j u hu
  obtain ⟨i, x, hx, hh⟩ := Dk.wcells_of l j u hu
  obtain ⟨b, o, h1, _, h3, h4, _⟩ := h.at_ i x hx
  cases h1
  rcases hh with ⟨rfl, rfl⟩ | ⟨rfl, rfl⟩
  · rw [Dk.add_at]; exact h3
  · rw [Dk.add_at]; exact h4

/-- Clone of sectors. -/
theorem cloneK_any (l : List ByteArray) (ad : Option Addr) (cap : Nat) (w : World) (hr : Dk.RK w ad l) (hl : l.length ≤ 600) (h0 : 0 < l.length) :
    Calls Try.prog 60 #[.slice ad l.length cap] w fun e w' => ∃ g cap', e = .returned (.slice (some ⟨g, 0, none⟩) l.length cap') ∧ w'.ownsRow w.heap.size 9 1 (.slice (some ⟨g, 0, none⟩) l.length cap') l.length (l.map Value.string) ∧ Below w.heap.size w w' := by
  obtain ⟨b, o, rfl, _⟩ := hr.at_ 0 l[0] (List.getElem?_eq_getElem h0)
  refine (cloneK_at l _ cap w hr.news hl).mono ?_
  rintro e w' ⟨v, rfl, ho, hb⟩
  rcases ho.2 with ⟨_, hn⟩ | ⟨g, cap', cur, rfl, hr⟩
  · omega
  · exact ⟨g, cap', rfl, ⟨ho.1, .inr ⟨g, cap', cur, rfl, hr⟩⟩, hb⟩

/-- Clone of writes. -/
theorem cloneW_any (l : List (Int × ByteArray)) (ad : Option Addr) (cap : Nat) (w : World) (hr : Dk.RW w ad l) (hl : l.length ≤ 600) :
    Calls Try.prog 61 #[.slice ad l.length cap] w fun e w' => ∃ ad' cap', e = .returned (.slice ad' l.length cap') ∧ w'.ownsRow w.heap.size 68 2 (.slice ad' l.length cap') l.length (Dk.wcells l) ∧ Below w.heap.size w w' := by
  cases ad with
  | none =>
    have h0 : l = [] := by
      cases l with
      | nil => rfl
      | cons x r => obtain ⟨b, o, h1, _⟩ := hr.at_ 0 x rfl; cases h1
    subst h0
    refine (cloneW_nil _ cap w).mono ?_
    rintro e w' ⟨rfl, rfl⟩
    exact ⟨none, 0, rfl, World.ownsRow_nil _ _ _ _, Below.refl _ _⟩
  | some a =>
    refine (cloneW_at l a cap w hr.news hl).mono ?_
    rintro e w' ⟨v, rfl, ho, hb⟩
    rcases ho.2 with ⟨rfl, hn⟩ | ⟨g, cap', cur, rfl, hr⟩
    · rw [hn] at ho ⊢; exact ⟨none, 0, rfl, ho, hb⟩
    · exact ⟨some ⟨g, 0, none⟩, cap', rfl, ⟨ho.1, .inr ⟨g, cap', cur, rfl, hr⟩⟩, hb⟩
end Go.Proofs.Ytpabpcojiaklfaa
