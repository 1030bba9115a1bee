/-
  Looking up: what the calls answer, as plain functions on lists; sorted lists. By the verifier.
-/
import Derived.Test.YtfhlnelgnnkeoaaGreatDoorCBase
import Derived.Maps.OwnRows
import Derived.Maps.Views
namespace Go.Proofs.YtfhlnelgnnkeoaaGreatDoor
open Go.RowKit
set_option linter.unusedVariables false

/-- What an event is about. -/
def Ix.about (e : Ev) : Int := if e.n0 = 1 then e.n2 else if e.n0 = 2 ∨ e.n0 = 5 then e.n3 else e.n5
def Ix.fits (kind n : Int) (e : Ev) : Bool := decide (e.n0 = kind) && (decide (n = -1) || decide (n = Ix.about e))
/-- The times less than k of events that fit. -/
def Ix.T (kind n : Int) (l : List Ev) (k : Nat) : List Int := ((List.range k).filter fun t => (l[t]?).any (Ix.fits kind n)).map fun t => ((t : Nat) : Int)
def Ix.rng (f t : Int) (x : Int) : Bool := decide (f ≤ x) && decide (x < t)
def Ix.found (kind n f t : Int) (l : List Ev) : List Int := (Ix.T kind n l l.length).filter (Ix.rng f t)
def Ix.low (b : Int) (x : Int) : Bool := decide (x < b)
/-- How many are less. -/
def Ix.cnt (b : Int) (zs : List Int) : Nat := (zs.filter (Ix.low b)).length
def Ix.lastV (b : Int) (zs : List Int) : Int := ((zs.filter (Ix.low b)).getLast?).getD 0
def Ix.lastB (b : Int) (zs : List Int) : Bool := decide (0 < Ix.cnt b zs)
/-- What is wrong. -/
def Ix.chk (n : Nat) (kind : Int) : Nat := if 4000 < n then 2 else if kind < 1 ∨ 7 < kind then 7 else 0

theorem Ix.T_step (kind n : Int) (l : List Ev) (k : Nat) (e : Ev) (h : l[k]? = some e) : Ix.T kind n l (k + 1) = if Ix.fits kind n e then Ix.T kind n l k ++ [(k : Int)] else Ix.T kind n l k := by
  unfold Ix.T
  rw [List.range_succ, List.filter_append, List.map_append]
  by_cases hf : Ix.fits kind n e = true
  · simp [h, hf]
  · simp [h, hf]
theorem Ix.T_zero (kind n : Int) (l : List Ev) : Ix.T kind n l 0 = [] := rfl
theorem Ix.T_length (kind n : Int) (l : List Ev) (k : Nat) : (Ix.T kind n l k).length ≤ k := by
  unfold Ix.T
  rw [List.length_map]
  exact Nat.le_trans (List.length_filter_le _ _) (by simp)
theorem Ix.T_mem {kind n : Int} {l : List Ev} {k : Nat} {x : Int} (h : x ∈ Ix.T kind n l k) : 0 ≤ x ∧ x < k := by
  unfold Ix.T at h
  obtain ⟨t, ht, rfl⟩ := List.mem_map.1 h
  have := List.mem_range.1 (List.mem_filter.1 ht).1
  omega

/-- Lists that rise. -/
def Ix.Up (zs : List Int) : Prop := zs.Pairwise (· < ·)
theorem Ix.T_up (kind n : Int) (l : List Ev) (k : Nat) : Ix.Up (Ix.T kind n l k) := by
  unfold Ix.Up Ix.T
  rw [List.pairwise_map]
  have h : (List.range k).Pairwise (· < ·) := List.pairwise_lt_range
  exact (h.filter _).imp fun h => by omega

theorem Ix.Up.at_lt {zs : List Int} (h : Ix.Up zs) {i j : Nat} {a b : Int} (hij : i < j) (hi : zs[i]? = some a) (hj : zs[j]? = some b) : a < b := by
  obtain ⟨h1, rfl⟩ := List.getElem?_eq_some_iff.1 hi
  obtain ⟨h2, rfl⟩ := List.getElem?_eq_some_iff.1 hj
  exact List.pairwise_iff_getElem.1 h i j h1 h2 hij

/-- A list that rises, parted at a number. -/
theorem Ix.Up.part {zs : List Int} (h : Ix.Up zs) (b : Int) : zs = zs.filter (Ix.low b) ++ zs.filter (fun x => !Ix.low b x) := by
  induction zs with
  | nil => rfl
  | cons x r ih =>
    have hr : Ix.Up r := (List.pairwise_cons.1 h).2
    by_cases hx : Ix.low b x = true
    · rw [List.filter_cons_of_pos hx, List.filter_cons_of_neg (by simp [hx])]
      show x :: r = x :: (_ ++ _)
      rw [← ih hr]
    · have hall : ∀ y ∈ r, Ix.low b y = false := fun y hy => by
        have := (List.pairwise_cons.1 h).1 y hy
        simp only [Ix.low, decide_eq_true_eq, Int.not_lt] at hx
        simp only [Ix.low, decide_eq_false_iff_not, Int.not_lt]
        omega
      have e1 : r.filter (Ix.low b) = [] := List.filter_eq_nil_iff.2 fun y hy => by rw [hall y hy]; decide
      have e2 : r.filter (fun x => !Ix.low b x) = r := List.filter_eq_self.2 fun y hy => by rw [hall y hy]; rfl
      rw [List.filter_cons_of_neg hx, e1, List.filter_cons_of_pos (by simp [hx]), e2]
      rfl
theorem Ix.cnt_le (b : Int) (zs : List Int) : Ix.cnt b zs ≤ zs.length := List.length_filter_le _ _
theorem Ix.Up.take {zs : List Int} (h : Ix.Up zs) (b : Int) : zs.take (Ix.cnt b zs) = zs.filter (Ix.low b) := by
  have := h.part b
  unfold Ix.cnt
  generalize zs.filter (Ix.low b) = A at *
  rw [this, List.take_left']
  rfl
theorem Ix.Up.drop {zs : List Int} (h : Ix.Up zs) (b : Int) : zs.drop (Ix.cnt b zs) = zs.filter (fun x => !Ix.low b x) := by
  have := h.part b
  unfold Ix.cnt
  generalize zs.filter (Ix.low b) = A at *
  generalize zs.filter (fun x => !Ix.low b x) = B at *
  rw [this, List.drop_left']
  rfl
theorem Ix.Up.lowAt {zs : List Int} (h : Ix.Up zs) (b : Int) {i : Nat} {x : Int} (hi : zs[i]? = some x) : (i < Ix.cnt b zs ↔ x < b) := by
  constructor
  · intro hc
    have : (zs.take (Ix.cnt b zs))[i]? = some x := by rw [List.getElem?_take_of_lt hc]; exact hi
    rw [h.take b] at this
    have := (List.mem_filter.1 (List.mem_of_getElem? this)).2
    simpa [Ix.low] using this
  · intro hx
    rcases Nat.lt_or_ge i (Ix.cnt b zs) with h1 | h1
    · exact h1
    · have : (zs.drop (Ix.cnt b zs))[i - Ix.cnt b zs]? = some x := by rw [List.getElem?_drop, show Ix.cnt b zs + (i - Ix.cnt b zs) = i by omega]; exact hi
      rw [h.drop b] at this
      have := (List.mem_filter.1 (List.mem_of_getElem? this)).2
      simp [Ix.low] at this
      omega
/-- The one place where a list that rises is parted. -/
theorem Ix.Up.cnt_is {zs : List Int} (h : Ix.Up zs) (b : Int) {c : Nat} (hc : c ≤ zs.length) (hlo : ∀ i x, i < c → zs[i]? = some x → x < b) (hhi : ∀ i x, c ≤ i → zs[i]? = some x → b ≤ x) : c = Ix.cnt b zs := by
  have hle := Ix.cnt_le b zs
  rcases Nat.lt_trichotomy c (Ix.cnt b zs) with h1 | h1 | h1
  · have hx : zs[c]? = some zs[c] := List.getElem?_eq_getElem (by omega)
    have := (h.lowAt b hx).1 h1
    have := hhi c _ (Nat.le_refl _) hx
    omega
  · exact h1
  · have hx : zs[Ix.cnt b zs]? = some zs[Ix.cnt b zs] := List.getElem?_eq_getElem (by omega)
    have h2 := hlo _ _ h1 hx
    have := (h.lowAt b hx).2 h2
    omega

theorem Ix.Up.between {zs : List Int} (h : Ix.Up zs) (f t : Int) : (zs.drop (Ix.cnt f zs)).take (max (Ix.cnt f zs) (Ix.cnt t zs) - Ix.cnt f zs) = zs.filter (Ix.rng f t) := by
  have hup : Ix.Up (zs.filter fun x => !Ix.low f x) := h.filter _
  have e : (zs.filter fun x => !Ix.low f x).filter (Ix.low t) = zs.filter (Ix.rng f t) := by
    rw [List.filter_filter]
    refine List.filter_congr fun x _ => ?_
    simp only [Ix.low, Ix.rng]
    rw [Bool.eq_iff_iff]
    simp
    omega
  have hc : Ix.cnt t (zs.filter fun x => !Ix.low f x) = max (Ix.cnt f zs) (Ix.cnt t zs) - Ix.cnt f zs := by
    have e1 : Ix.cnt t zs = Ix.cnt t (zs.filter (Ix.low f)) + Ix.cnt t (zs.filter fun x => !Ix.low f x) := by
      unfold Ix.cnt
      rw [← List.length_append, ← List.filter_append, ← h.part f]
    rcases Int.lt_or_le f t with hft | hft
    · have e2 : (zs.filter (Ix.low f)).filter (Ix.low t) = zs.filter (Ix.low f) := List.filter_eq_self.2 fun x hx => by
        have := (List.mem_filter.1 hx).2
        simp only [Ix.low, decide_eq_true_eq] at this ⊢
        omega
      have e3 : Ix.cnt t (zs.filter (Ix.low f)) = Ix.cnt f zs := by unfold Ix.cnt; rw [e2]
      omega
    · have e2 : (zs.filter fun x => !Ix.low f x).filter (Ix.low t) = [] := List.filter_eq_nil_iff.2 fun x hx => by
        have := (List.mem_filter.1 hx).2
        simp [Ix.low] at this ⊢
        omega
      have e3 : Ix.cnt t (zs.filter fun x => !Ix.low f x) = 0 := by unfold Ix.cnt; rw [e2]; rfl
      have e4 : Ix.cnt t (zs.filter (Ix.low f)) ≤ Ix.cnt f zs := by
        unfold Ix.cnt
        exact List.length_filter_le _ _
      omega
  rw [h.drop f, ← hc, hup.take t, e]

theorem Ix.Up.lastAt {zs : List Int} (h : Ix.Up zs) (b : Int) {c : Nat} (hc : Ix.cnt b zs = c + 1) : zs[c]? = some (Ix.lastV b zs) := by
  have : (zs.take (Ix.cnt b zs)).getLast? = zs[c]? := by
    rw [List.getLast?_eq_getElem?, List.length_take, Nat.min_eq_left (Ix.cnt_le b zs), hc, Nat.add_sub_cancel, List.getElem?_take_of_lt (by omega)]
  unfold Ix.lastV
  rw [← h.take b, this]
  have : c < zs.length := by have := Ix.cnt_le b zs; omega
  rw [List.getElem?_eq_getElem this]
  rfl
theorem Ix.lastV_none {b : Int} {zs : List Int} (hc : Ix.cnt b zs = 0) : Ix.lastV b zs = 0 := by
  unfold Ix.lastV
  rw [List.length_eq_zero_iff.1 hc]
  rfl

/-- A slice of numbers, as it is read. -/
structure Ix.RI (w : World) (ad : Option Addr) (l : List Int) : Prop where
  at_ : ∀ i x, l[i]? = some x → ∃ b o, ad = some ⟨b, o, none⟩ ∧ b < w.heap.size ∧ w.cell? ⟨b, o + i, none⟩ = some (.int .i64 x)
theorem Ix.RI.later {w w' : World} {ad : Option Addr} {l : List Int} (h : Ix.RI w ad l) {B : Nat} (hb : Below B w w') (hB : w.heap.size ≤ B) : Ix.RI w' ad l :=
  ⟨fun i t hi => by
    obtain ⟨b, o, h1, h2, h3⟩ := h.at_ i t hi
    exact ⟨b, o, h1, by have := hb.size; omega, (hb.cell (p := ⟨b, o + i, none⟩) (by show b < B; omega)).trans h3⟩⟩
theorem Ix.RI.nil (w : World) (ad : Option Addr) : Ix.RI w ad [] := ⟨fun i s h => by simp at h⟩
end Go.Proofs.YtfhlnelgnnkeoaaGreatDoor
