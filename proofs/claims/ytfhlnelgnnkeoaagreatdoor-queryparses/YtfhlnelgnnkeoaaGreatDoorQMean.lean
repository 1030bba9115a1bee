/-
  When queries hold, as plain functions on lists; who tells it, time by time. By the verifier.
-/
import Derived.Test.YtfhlnelgnnkeoaaGreatDoorQBase
namespace Go.Proofs.YtfhlnelgnnkeoaaGreatDoor
open Go.RowKit
set_option linter.unusedVariables false

def Qk.at_ (b : List Bool) (i : Nat) : Bool := (b[i]?).getD false
/-- Did it hold at one of the first t? -/
def Qk.onceTo (b : List Bool) : Nat → Bool
  | 0 => false
  | t + 1 => Qk.onceTo b t || Qk.at_ b t
def Qk.allTo (b : List Bool) : Nat → Bool
  | 0 => true
  | t + 1 => Qk.allTo b t && Qk.at_ b t
def Qk.sinceTo (a b : List Bool) : Nat → Bool
  | 0 => false
  | t + 1 => Qk.at_ b t || (Qk.sinceTo a b t && Qk.at_ a t)
/-- The next time at which it holds; how many there are, if there is none. -/
def Qk.nx (b : List Bool) (t : Nat) : Nat := t + (b.drop t).findIdx (fun x => x)
def Qk.soonAt (b : List Bool) (n : Int) (t : Nat) : Bool := decide (Qk.nx b t < b.length) && decide (((Qk.nx b t : Nat) : Int) - (t : Nat) ≤ n)
def Qk.fitsAt (kind n : Int) (l : List Ev) (t : Nat) : Bool := (l[t]?).any (Ix.fits kind n)
/-- Does a query hold at a time, of which these hold? -/
def Qk.ev (k n : Int) (l : List Ev) (a b : List Bool) (t : Nat) : Bool :=
  match k with
  | 1 => Qk.fitsAt 1 n l t
  | 2 => Qk.fitsAt 2 n l t
  | 3 => Qk.fitsAt 5 n l t
  | 4 => Qk.fitsAt 4 (-1) l t
  | 5 => (l[t]?).any (fun e => decide (e.n5 < n))
  | 6 => (l[t]?).any (fun e => decide (e.n5 = n))
  | 7 => !Qk.at_ a t
  | 8 => Qk.at_ a t && Qk.at_ b t
  | 9 => Qk.at_ a t || Qk.at_ b t
  | 10 => decide (0 < t) && Qk.at_ a (t - 1)
  | 11 => Qk.onceTo a (t + 1)
  | 12 => Qk.allTo a (t + 1)
  | 13 => Qk.sinceTo a b (t + 1)
  | _ => Qk.soonAt a n t
def Qk.sub (s : List (List Bool)) (i : Nat) : List Bool := (s[i]?).getD []
def Qk.marksBy (k n : Int) (l : List Ev) (s : List (List Bool)) : List Bool := (List.range l.length).map (Qk.ev k n l (Qk.sub s 0) (Qk.sub s 1))
/-- At which events a query holds. -/
def Qk.marks : (n : Nat) → Qk.AT n → List Ev → List Bool
  | 0, _, _ => []
  | n + 1, x, l => Qk.marksBy x.1.1 x.1.2 l (x.2.map fun y => Qk.marks n y l)

theorem Qk.marksBy_length (k n : Int) (l : List Ev) (s : List (List Bool)) : (Qk.marksBy k n l s).length = l.length := by simp [Qk.marksBy]
theorem Qk.marks_length (n : Nat) (x : Qk.AT (n + 1)) (l : List Ev) : (Qk.marks (n + 1) x l).length = l.length := Qk.marksBy_length _ _ _ _
theorem Qk.at_some {b : List Bool} {i : Nat} {x : Bool} (h : b[i]? = some x) : Qk.at_ b i = x := by simp [Qk.at_, h]
theorem Qk.at_get {b : List Bool} {i : Nat} (h : i < b.length) : b[i]? = some (Qk.at_ b i) := by simp [Qk.at_, List.getElem?_eq_getElem h]

theorem Qk.nx_ge (b : List Bool) (t : Nat) : t ≤ Qk.nx b t := Nat.le_add_right _ _
theorem Qk.nx_le {b : List Bool} {t : Nat} (h : t ≤ b.length) : Qk.nx b t ≤ b.length := by
  have := List.findIdx_le_length (xs := b.drop t) (p := fun x => x)
  rw [List.length_drop] at this
  unfold Qk.nx
  omega
theorem Qk.nx_before {b : List Bool} {t u : Nat} (h1 : t ≤ u) (h2 : u < Qk.nx b t) : Qk.at_ b u = false := by
  have := List.not_of_lt_findIdx (xs := b.drop t) (p := fun x => x) (i := u - t) (by unfold Qk.nx at h2; omega)
  rw [List.getElem_drop] at this
  unfold Qk.at_
  cases hb : b[u]? with
  | none => rfl
  | some x =>
    obtain ⟨hu, rfl⟩ := List.getElem?_eq_some_iff.1 hb
    have e : t + (u - t) = u := by omega
    simp only [e] at this
    simpa using this
theorem Qk.nx_at {b : List Bool} {t : Nat} (h : Qk.nx b t < b.length) : Qk.at_ b (Qk.nx b t) = true := by
  have hlt : (b.drop t).findIdx (fun x => x) < (b.drop t).length := by rw [List.length_drop]; unfold Qk.nx at h; omega
  have := List.findIdx_getElem (xs := b.drop t) (p := fun x => x) (w := hlt)
  rw [List.getElem_drop] at this
  unfold Qk.at_ Qk.nx
  rw [List.getElem?_eq_getElem (by exact h)]
  exact this
/-- The next time, known by what lies ahead of it and by itself. -/
theorem Qk.nx_is {b : List Bool} {t v : Nat} (h1 : t ≤ v) (h2 : v ≤ b.length) (h3 : ∀ u, t ≤ u → u < v → Qk.at_ b u = false) (h4 : v = b.length ∨ Qk.at_ b v = true) : Qk.nx b t = v := by
  rcases Nat.lt_trichotomy (Qk.nx b t) v with h | h | h
  · have := Qk.nx_at (b := b) (t := t) (by omega)
    rw [h3 _ (Qk.nx_ge b t) h] at this
    cases this
  · exact h
  · rcases h4 with h4 | h4
    · have := Qk.nx_le (b := b) (t := t) (by omega)
      omega
    · rw [Qk.nx_before h1 h] at h4
      cases h4

/-! ### Who tells it -/
/-- Nothing turned but what lies from lo to less than hi. -/
structure Qk.Only (lo hi : Nat) (W W' : World) : Prop where
  os : W'.os = W.os
  tape : W'.tape = W.tape
  output : W'.output = W.output
  size : W.heap.size ≤ W'.heap.size
  block : ∀ q, q < W.heap.size → (q < lo ∨ hi ≤ q) → W'.heap[q]? = W.heap[q]?
theorem Qk.Only.of_below {lo hi : Nat} {W W' : World} (h : Below W.heap.size W W') : Qk.Only lo hi W W' := ⟨h.os, h.tape, h.output, h.size, fun q h1 _ => h.block q h1⟩
theorem Qk.Only.below {lo hi : Nat} {W W' : World} (h : Qk.Only lo hi W W') (hlo : lo ≤ W.heap.size) : Below lo W W' := ⟨h.os, h.tape, h.output, h.size, fun q h1 => h.block q (by omega) (Or.inl h1)⟩
theorem Qk.Only.set {lo hi : Nat} (W : World) {b o : Nat} (h1 : lo ≤ b) (h2 : b < hi) (v : Value) : Qk.Only lo hi W (W.setCell ⟨b, o, none⟩ v) :=
  ⟨rfl, rfl, rfl, by simp [World.setCell], fun q _ h => by rw [Below.heap_setCell _ _ _ _ (by show q ≠ b; omega)]⟩
theorem Qk.Only.trans {lo hi : Nat} {W1 W2 W3 : World} (h : Qk.Only lo hi W1 W2) (k : Qk.Only lo hi W2 W3) : Qk.Only lo hi W1 W3 :=
  ⟨k.os.trans h.os, k.tape.trans h.tape, k.output.trans h.output, Nat.le_trans h.size k.size, fun q h1 h2 => (k.block q (Nat.lt_of_lt_of_le h1 h.size) h2).trans (h.block q h1 h2)⟩

/-- A closure that tells M, time by time: Inv is what it leans on. -/
structure Qk.Tl (fid : Nat) (lb : Array Value) (len lo hi : Nat) (M : Nat → Bool) (Inv : Nat → World → Prop) : Prop where
  enter : ∀ (args : Array Value) (W : World), (callFunc fid args).run Tryz.prog W = .ok (.enter fid args) W
  keep : ∀ t W W', Inv t W → Below hi W W' → Inv t W'
  call : ∀ (t : Nat) (W : World), t < len → Inv t W → hi ≤ W.heap.size → Calls Tryz.prog fid (#[.int .i64 (t : Nat)] ++ lb) W fun e W' => e = .returned (.bool (M t)) ∧ Inv (t + 1) W' ∧ Qk.Only lo hi W W'
/-- All but one block below hi is as it was. -/
structure Qk.But1 (bx hi : Nat) (W W' : World) : Prop where
  os : W'.os = W.os
  tape : W'.tape = W.tape
  output : W'.output = W.output
  size : W.heap.size ≤ W'.heap.size
  block : ∀ q, q < hi → q ≠ bx → W'.heap[q]? = W.heap[q]?
theorem Qk.But1.refl (bx hi : Nat) (W : World) : Qk.But1 bx hi W W := ⟨rfl, rfl, rfl, Nat.le_refl _, fun _ _ _ => rfl⟩
theorem Qk.But1.below {bx hi : Nat} {W W1 W2 : World} (h : Qk.But1 bx hi W W1) (hb : Below hi W1 W2) : Qk.But1 bx hi W W2 :=
  ⟨hb.os.trans h.os, hb.tape.trans h.tape, hb.output.trans h.output, Nat.le_trans h.size hb.size, fun q h1 h2 => (hb.block q h1).trans (h.block q h1 h2)⟩
theorem Qk.But1.set {bx hi o : Nat} {W W1 : World} (h : Qk.But1 bx hi W W1) (v : Value) : Qk.But1 bx hi W (W1.setCell ⟨bx, o, none⟩ v) :=
  ⟨h.os, h.tape, h.output, Nat.le_trans h.size (by simp [World.setCell]), fun q h1 h2 => (Below.heap_setCell _ _ _ _ (by exact h2)).trans (h.block q h1 h2)⟩
theorem Qk.But1.cell {bx hi : Nat} {W W1 : World} (h : Qk.But1 bx hi W W1) {q o : Nat} (h1 : q < hi) (h2 : q ≠ bx) : W1.cell? ⟨q, o, none⟩ = W.cell? ⟨q, o, none⟩ := World.cell?_of_block (a := ⟨q, o, none⟩) (h.block q h1 h2)

/-- A row of yes and no. -/
def Qk.Row (W : World) (g : Nat) (s : List Bool) : Prop := ∃ (cs : Array Value), W.heap[g]? = some (.cells cs 4 (0, 0)) ∧ ∀ (i : Nat) (b : Bool), s[i]? = some b → cs[i]? = some (Value.bool b)
theorem Qk.Row.kept {W W' : World} {g : Nat} {s : List Bool} (h : Qk.Row W g s) (hb : W'.heap[g]? = W.heap[g]?) : Qk.Row W' g s := by
  obtain ⟨cs, h1, h2⟩ := h
  exact ⟨cs, hb.trans h1, h2⟩
theorem Qk.Row.lt {W : World} {g : Nat} {s : List Bool} (h : Qk.Row W g s) : g < W.heap.size := by
  obtain ⟨cs, h1, h2⟩ := h
  exact (Array.getElem?_eq_some_iff.1 h1).1
theorem Qk.Row.cell {W : World} {g : Nat} {s : List Bool} (h : Qk.Row W g s) {i : Nat} {b : Bool} (hi : s[i]? = some b) : W.cell? ⟨g, i, none⟩ = some (.bool b) := by
  obtain ⟨cs, h1, h2⟩ := h
  simp [World.cell?, h1, h2 i b hi]
theorem Qk.Row.reads {W : World} {g : Nat} {s : List Bool} (h : Qk.Row W g s) : Dk.RB W (some ⟨g, 0, none⟩) s :=
  ⟨fun i b hi => ⟨g, 0, rfl, h.lt, by rw [Nat.zero_add]; exact h.cell hi⟩⟩
end Go.Proofs.YtfhlnelgnnkeoaaGreatDoor
